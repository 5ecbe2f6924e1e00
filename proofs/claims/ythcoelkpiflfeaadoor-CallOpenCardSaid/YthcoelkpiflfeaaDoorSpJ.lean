/- group.World, group.Dup. -/
import Derived.Test.YthcoelkpiflfeaaDoorRows
import Derived.Test.YthcoelkpiflfeaaDoorSpC
import Derived.Test.YthcoelkpiflfeaaDoorGround
import Derived.LoopN
namespace Go.Proofs.YthcoelkpiflfeaaDoor
open Go Go.RowKit Go.Lib Go.Proofs.YthcoelkpiflfeaaDoor.Grp
set_option linter.unusedVariables false
set_option linter.unusedSimpArgs false
namespace Sp
/-- The numbers up to i are written, of n. -/
def wldC (n i : Nat) : Array Value := (Array.range n).map fun j => if j < i then .int .i64 (j : Int) else .int .i64 0
theorem wldC_at {n i j : Nat} (h : j < n) : (wldC n i)[j]? = some (if j < i then .int .i64 (j : Int) else .int .i64 0) := by
  unfold wldC
  rw [Array.getElem?_map, Array.getElem?_eq_getElem (by simpa using h)]
  simp
theorem wldC_set {n i : Nat} (h : i < n) : (wldC n i).setIfInBounds i (.int .i64 (i : Int)) = wldC n (i + 1) := by
  apply Array.ext (by simp [wldC])
  intro j h1 h2
  have hj : j < n := by simpa [wldC] using h2
  rw [Array.getElem_setIfInBounds (by simpa [wldC] using hj)]
  simp only [wldC, Array.getElem_map, Array.getElem_range]
  by_cases e : i = j
  · subst e; simp
  · rw [if_neg e]
    by_cases hl : j < i
    · rw [if_pos hl, if_pos (by omega)]
    · rw [if_neg hl, if_neg (by omega)]
def upto (n : Nat) : List Int := (List.range n).map Int.ofNat
theorem wldC_all (n : Nat) : wldC n n = (ints (upto n)).toArray := by
  apply Array.ext (by simp [wldC, ints, upto])
  intro j h1 h2
  have hj : j < n := by simpa [wldC] using h1
  simp [wldC, ints, upto, hj]
theorem wldC_made (n : Nat) : madeCells (Value.int .i64 0).cells (n * 1) = wldC n 0 := by
  apply Array.ext (by rw [size_madeCells]; simp [wldC])
  intro j h1 h2
  have hj : j < n := by simpa [wldC] using h2
  have e1 : (wldC n 0)[j]? = some (.int .i64 0) := by rw [wldC_at hj, if_neg (by omega)]
  have e2 : (madeCells (Value.int .i64 0).cells (n * 1))[j]? = some (.int .i64 0) := by
    rw [Array.getElem?_eq_getElem h1]
    simp [madeCells, Value.cells, Nat.mod_one]
  rw [Array.getElem?_eq_getElem h1] at e2
  rw [Array.getElem?_eq_getElem h2] at e1
  exact Option.some.inj (e2.trans e1.symm)
set_option maxRecDepth 100000 in
set_option maxHeartbeats 4000000 in
theorem World_no (n : Int) (w : World) (h : n < 1 ∨ 64 < n) : Calls Tryd.prog 17 #[.int .i64 n] w fun e w' => e = .returned (.tuple #[.agg #[.string ⟨#[]⟩, .slice none 0 0], .int .i64 2]) ∧ Below w.heap.size w w' := by
  have r := Blk.new w 37 #[.string ⟨#[]⟩, .slice none 0 0]
  have hb := (Below.refl w.heap.size w).alloc (Nat.le_refl _) (.cells #[.string ⟨#[]⟩, .slice none 0 0] 37)
  obtain ⟨W1, hW1⟩ : ∃ x, w.alloc (.cells #[.string ⟨#[]⟩, .slice none 0 0] 37) = x := ⟨_, rfl⟩
  rw [hW1] at r hb
  have t0 : W1.cell? ⟨w.heap.size, 0, none⟩ = some (.string ⟨#[]⟩) := r.cell 0
  have t1 : W1.cell? ⟨w.heap.size, 1, none⟩ = some (.slice none 0 0) := r.cell 1
  have f0 := r.frozen 0
  have f1 := r.frozen 1
  have r2 := (r.set_ 0 (.string ⟨#[]⟩)).set_ 1 (.slice none 0 0)
  have hb2 := (hb.setCell (p := ⟨w.heap.size, 0, none⟩) (Nat.le_refl _) (.string ⟨#[]⟩)).setCell (p := ⟨w.heap.size, 1, none⟩) (Nat.le_refl _) (.slice none 0 0)
  obtain ⟨W2, hW2⟩ : ∃ x, (W1.setCell ⟨w.heap.size, 0, none⟩ (.string ⟨#[]⟩)).setCell ⟨w.heap.size, 1, none⟩ (.slice none 0 0) = x := ⟨_, rfl⟩
  rw [hW2] at r2 hb2
  have u0 : W2.cell? ⟨w.heap.size, 0, none⟩ = some (.string ⟨#[]⟩) := r2.cell 0
  have u1 : W2.cell? ⟨w.heap.size, 1, none⟩ = some (.slice none 0 0) := r2.cell 1
  have HB2 := hide hb2
  clear hb hb2 r r2
  by_cases h1 : n < 1
  · go_enter Tryd.func17, Tryd.ntmps17
    go_wp2_with fail
    exact bodyPost_ret (v := .tuple #[.agg #[.string ⟨#[]⟩, .slice none 0 0], .int .i64 2]) (by simp [results, Tryd.results17, go_sem, u0, u1]) rfl ⟨rfl, HB2.out⟩
  · have h2 : 64 < n := by omega
    have h3 : ¬ n ≤ 64 := by omega
    go_enter Tryd.func17, Tryd.ntmps17
    go_wp2_with fail
    exact bodyPost_ret (v := .tuple #[.agg #[.string ⟨#[]⟩, .slice none 0 0], .int .i64 2]) (by simp [results, Tryd.results17, go_sem, u0, u1]) rfl ⟨rfl, HB2.out⟩
set_option maxRecDepth 100000 in
set_option maxHeartbeats 4000000 in
theorem World_yes (n : Nat) (w : World) (h1 : 1 ≤ n) (h2 : n ≤ 64) : Calls Tryd.prog 17 #[.int .i64 (n : Int)] w fun e w' => ∃ g, e = .returned (.tuple #[.agg #[.string ⟨#[]⟩, .slice (some ⟨g, 0, none⟩) n n], .int .i64 0]) ∧ w.heap.size ≤ g ∧ Blk w' g 3 (ints (upto n)).toArray ∧ Below w.heap.size w w' := by
  obtain ⟨i0, hi0, hz0, hz1, hz2⟩ := info_parts int_infoG
  have r := Blk.new w 37 #[.string ⟨#[]⟩, .slice none 0 0]
  have hb := (Below.refl w.heap.size w).alloc (Nat.le_refl _) (.cells #[.string ⟨#[]⟩, .slice none 0 0] 37)
  have hs1 : (w.alloc (.cells #[.string ⟨#[]⟩, .slice none 0 0] 37)).heap.size = w.heap.size + 1 := by simp
  obtain ⟨W1, hW1⟩ : ∃ x, w.alloc (.cells #[.string ⟨#[]⟩, .slice none 0 0] 37) = x := ⟨_, rfl⟩
  rw [hW1] at r hb hs1
  have MK := run_make_rowN (P := Tryd.prog) 22 3 i0 (.int .i64 0) Tryd.underlying22 hi0 hz0 .i64 .i64 n n (Nat.le_refl _) (by rw [hz2]; omega) (by omega) W1
  rw [hz1, hs1, wldC_made] at MK
  have r2 := r.alloc (.cells (wldC n 0) 3)
  have n2 := Blk.new W1 3 (wldC n 0)
  have hb2 := hb.alloc (by omega) (.cells (wldC n 0) 3)
  have hs2 : (W1.alloc (.cells (wldC n 0) 3)).heap.size = w.heap.size + 1 + 1 := by rw [← hs1]; simp
  obtain ⟨W2, hW2⟩ : ∃ x, W1.alloc (.cells (wldC n 0) 3) = x := ⟨_, rfl⟩
  rw [hW2] at r2 n2 hb2 hs2 MK
  rw [hs1] at n2
  have r3 := r2.alloc (.cells #[.string ⟨#[]⟩, .slice none 0 0] 37)
  have n3 := n2.alloc (.cells #[.string ⟨#[]⟩, .slice none 0 0] 37)
  have q3 := Blk.new W2 37 #[.string ⟨#[]⟩, .slice none 0 0]
  have hb3 := hb2.alloc (by omega) (.cells #[.string ⟨#[]⟩, .slice none 0 0] 37)
  rw [hs2] at q3
  obtain ⟨W3, hW3⟩ : ∃ x, W2.alloc (.cells #[.string ⟨#[]⟩, .slice none 0 0] 37) = x := ⟨_, rfl⟩
  rw [hW3] at r3 n3 q3 hb3
  have c0 : W3.cell? ⟨w.heap.size + 1 + 1, 0, none⟩ = some (.string ⟨#[]⟩) := q3.cell 0
  have c1 : W3.cell? ⟨w.heap.size + 1 + 1, 1, none⟩ = some (.slice none 0 0) := q3.cell 1
  have g0 := q3.frozen 0
  have g1 := q3.frozen 1
  have q4 := (q3.set_ 0 (.string ⟨#[]⟩)).set_ 1 (.slice (some ⟨w.heap.size + 1, 0, none⟩) n n)
  have r4 := (r3.far (p := ⟨w.heap.size + 1 + 1, 0, none⟩) (by show w.heap.size ≠ w.heap.size + 1 + 1; omega) (.string ⟨#[]⟩)).far (p := ⟨w.heap.size + 1 + 1, 1, none⟩) (by show w.heap.size ≠ w.heap.size + 1 + 1; omega) (.slice (some ⟨w.heap.size + 1, 0, none⟩) n n)
  have n4 := (n3.far (p := ⟨w.heap.size + 1 + 1, 0, none⟩) (by show w.heap.size + 1 ≠ w.heap.size + 1 + 1; omega) (.string ⟨#[]⟩)).far (p := ⟨w.heap.size + 1 + 1, 1, none⟩) (by show w.heap.size + 1 ≠ w.heap.size + 1 + 1; omega) (.slice (some ⟨w.heap.size + 1, 0, none⟩) n n)
  have hb4 := (hb3.setCell (p := ⟨w.heap.size + 1 + 1, 0, none⟩) (by show w.heap.size ≤ w.heap.size + 1 + 1; omega) (.string ⟨#[]⟩)).setCell (p := ⟨w.heap.size + 1 + 1, 1, none⟩) (by show w.heap.size ≤ w.heap.size + 1 + 1; omega) (.slice (some ⟨w.heap.size + 1, 0, none⟩) n n)
  obtain ⟨W4, hW4⟩ : ∃ x, (W3.setCell ⟨w.heap.size + 1 + 1, 0, none⟩ (.string ⟨#[]⟩)).setCell ⟨w.heap.size + 1 + 1, 1, none⟩ (.slice (some ⟨w.heap.size + 1, 0, none⟩) n n) = x := ⟨_, rfl⟩
  rw [hW4] at q4 r4 n4 hb4
  have Q4 : Hid (Blk W4 (w.heap.size + 1 + 1) 37 #[.string ⟨#[]⟩, .slice (some ⟨w.heap.size + 1, 0, none⟩) n n]) := hide (by simpa using q4)
  have d1 : W4.cell? ⟨w.heap.size + 1 + 1, 1, none⟩ = some (.slice (some ⟨w.heap.size + 1, 0, none⟩) n n) := Q4.out.cell 1
  have R4 := hide r4
  have N4 := hide n4
  have HB4 := hide hb4
  clear r r2 r3 r4 n2 n3 n4 q3 q4 hb hb2 hb3 hb4 hi0 hz0 hz1 hz2
  have k1 : ¬ (n : Int) < 1 := by omega
  have k2 : ¬ 64 < (n : Int) := by omega
  go_enter Tryd.func17, Tryd.ntmps17
  go_wp2_with fail
  go_loopw [19] (fun vi wr => ∃ i : Nat, i ≤ n ∧ vi = .int .i64 i ∧ Hid (Blk wr (w.heap.size + 1) 3 (wldC n i)) ∧ Hid (Blk wr w.heap.size 37 #[.string ⟨#[]⟩, .slice none 0 0]) ∧ Hid (Blk wr (w.heap.size + 1 + 1) 37 #[.string ⟨#[]⟩, .slice (some ⟨w.heap.size + 1, 0, none⟩) n n]) ∧ Hid (Below w.heap.size w wr)) (fun vi _ => n - (RowKit.intOf vi).toNat)
  case atStart => exact ⟨0, Nat.zero_le _, rfl, N4, R4, Q4, HB4⟩
  case round =>
    obtain ⟨i, hi, rfl, HN, HR, HQ, HB⟩ := hrel
    rename World => wr
    have y0 : wr.cell? ⟨w.heap.size + 1 + 1, 0, none⟩ = some (.string ⟨#[]⟩) := HQ.out.cell 0
    have y1 : wr.cell? ⟨w.heap.size + 1 + 1, 1, none⟩ = some (.slice (some ⟨w.heap.size + 1, 0, none⟩) n n) := HQ.out.cell 1
    by_cases hlt : i < n
    · have hltI : (i : Int) < (n : Int) := by omega
      have z0 : wr.cell? ⟨w.heap.size + 1, i, none⟩ = some (.int .i64 0) := by rw [HN.out.cell, wldC_at hlt, if_neg (Nat.lt_irrefl _)]
      have z1 := HN.out.frozen i
      have HN2 : Hid (Blk (wr.setCell ⟨w.heap.size + 1, i, none⟩ (.int .i64 i)) (w.heap.size + 1) 3 (wldC n (i + 1))) := hide (by rw [← wldC_set hlt]; exact HN.out.set_ i _)
      have HR2 := hide (HR.out.far (p := ⟨w.heap.size + 1, i, none⟩) (by show w.heap.size ≠ w.heap.size + 1; omega) (.int .i64 i))
      have HQ2 := hide (HQ.out.far (p := ⟨w.heap.size + 1, i, none⟩) (by show w.heap.size + 1 + 1 ≠ w.heap.size + 1; omega) (.int .i64 i))
      have HB2 := hide (HB.out.setCell (p := ⟨w.heap.size + 1, i, none⟩) (by show w.heap.size ≤ w.heap.size + 1; omega) (.int .i64 i))
      go_wp2_with fail
      go_roundw
      case rel => exact ⟨i + 1, by omega, by go_num, HN2, HR2, HQ2, HB2⟩
      case measure => simp [RowKit.intOf] <;> omega
    · have hltI : ¬ (i : Int) < (n : Int) := by omega
      have e : i = n := by omega
      have HN2 : Hid (Blk wr (w.heap.size + 1) 3 (ints (upto n)).toArray) := hide (by rw [← wldC_all]; rw [← e]; exact e ▸ HN.out)
      have x0 : wr.cell? ⟨w.heap.size, 0, none⟩ = some (.string ⟨#[]⟩) := HR.out.cell 0
      have x1 : wr.cell? ⟨w.heap.size, 1, none⟩ = some (.slice none 0 0) := HR.out.cell 1
      have v0 := HR.out.frozen 0
      have v1 := HR.out.frozen 1
      have r5 := (HR.out.set_ 0 (.string ⟨#[]⟩)).set_ 1 (.slice (some ⟨w.heap.size + 1, 0, none⟩) n n)
      have n5 := (HN2.out.far (p := ⟨w.heap.size, 0, none⟩) (by show w.heap.size + 1 ≠ w.heap.size; omega) (.string ⟨#[]⟩)).far (p := ⟨w.heap.size, 1, none⟩) (by show w.heap.size + 1 ≠ w.heap.size; omega) (.slice (some ⟨w.heap.size + 1, 0, none⟩) n n)
      have hb5 := (HB.out.setCell (p := ⟨w.heap.size, 0, none⟩) (Nat.le_refl _) (.string ⟨#[]⟩)).setCell (p := ⟨w.heap.size, 1, none⟩) (Nat.le_refl _) (.slice (some ⟨w.heap.size + 1, 0, none⟩) n n)
      obtain ⟨W5, hW5⟩ : ∃ x, (wr.setCell ⟨w.heap.size, 0, none⟩ (.string ⟨#[]⟩)).setCell ⟨w.heap.size, 1, none⟩ (.slice (some ⟨w.heap.size + 1, 0, none⟩) n n) = x := ⟨_, rfl⟩
      rw [hW5] at r5 n5 hb5
      have u0 : W5.cell? ⟨w.heap.size, 0, none⟩ = some (.string ⟨#[]⟩) := r5.cell 0
      have u1 : W5.cell? ⟨w.heap.size, 1, none⟩ = some (.slice (some ⟨w.heap.size + 1, 0, none⟩) n n) := r5.cell 1
      have N5 := hide n5
      have HB5 := hide hb5
      clear r5 n5 hb5 e
      go_wp2_with fail
      exact bodyPost_ret (v := .tuple #[.agg #[.string ⟨#[]⟩, .slice (some ⟨w.heap.size + 1, 0, none⟩) n n], .int .i64 0]) (by simp [results, Tryd.results17, go_sem, u0, u1]) rfl ⟨w.heap.size + 1, rfl, by omega, N5.out, HB5.out⟩
end Sp
end Go.Proofs.YthcoelkpiflfeaaDoor
