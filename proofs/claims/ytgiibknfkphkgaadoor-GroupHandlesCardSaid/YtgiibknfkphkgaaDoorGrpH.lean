/- A rank's handles, as the program keeps them: At. -/
import Derived.Test.YtgiibknfkphkgaaDoorRows
import Derived.Test.YtgiibknfkphkgaaDoorGrpG
namespace Go.Proofs.YtgiibknfkphkgaaDoor
open Go.RowKit
set_option linter.unusedVariables false
set_option linter.unusedSimpArgs false
namespace Grp
theorem TabA.below {w w' : World} {T B : Nat} {hs : List He} (h : TabA w T B hs) (hb : Below w.heap.size w w') : TabA w' T B hs := by
  refine ⟨h.pos, h.le, ?_, fun i hi => ⟨(h.rows i hi).1.below hb, (h.rows i hi).2⟩⟩
  obtain ⟨v, h1, h2⟩ := h.tab
  exact ⟨v, h1.below hb h1.lt, own_belowR h2 hb⟩
theorem ask_yes {hs : List He} {i : Nat} (hi : i < hs.length) (hg : hs[i].gone = false) : askC hs (i : Int) = 0 := by
  unfold askC
  have e1 : (hs.getD (i : Int).toNat default) = hs[i] := by simp [hi]
  rw [e1, if_pos ⟨by omega, by omega, hg⟩]
theorem ask_or {hs : List He} {h : Int} : askC hs h = 110 ∨ ∃ i : Nat, ∃ hi : i < hs.length, h = i ∧ hs[i].gone = false := by
  by_cases hc : 0 ≤ h ∧ h < hs.length ∧ (hs.getD h.toNat default).gone = false
  · obtain ⟨i, rfl⟩ := Int.eq_ofNat_of_zero_le hc.1
    have hi : i < hs.length := by omega
    have e1 : (hs.getD (i : Int).toNat default) = hs[i] := by simp [hi]
    exact .inr ⟨i, hi, rfl, by rw [← e1]; exact hc.2.2⟩
  · exact .inl (by unfold askC; rw [if_neg hc])
set_option maxRecDepth 100000 in
set_option maxHeartbeats 2000000 in
theorem At_no (T B : Nat) (hs : List He) (h : Int) (w : World) (ht : TabA w T B hs) (ha : askC hs h = 110) :
    Calls Tryd.prog 24 #[.pointer (some ⟨T, 0, none⟩), .int .i64 h] w fun e w' => e = .returned (.tuple #[.agg #[.string ⟨#[]⟩, .slice none 0 0], .int .i64 110]) ∧ Below w.heap.size w w' := by
  have hb1 := (Below.refl w.heap.size w).alloc (Nat.le_refl _) (.cells #[.string ⟨#[]⟩, .slice none 0 0] 24)
  have b1 := Blk.new w 24 #[.string ⟨#[]⟩, .slice none 0 0]
  obtain ⟨W1, hW1⟩ : ∃ W1, w.alloc (.cells #[.string ⟨#[]⟩, .slice none 0 0] 24) = W1 := ⟨_, rfl⟩
  rw [hW1] at hb1 b1
  have AS := hide (asked_a T B hs h W1 (ht.below hb1))
  rw [ha] at AS
  have f0 := b1.frozen 0
  have f1 := b1.frozen 1
  have t0 : W1.cell? ⟨w.heap.size, 0, none⟩ = some (.string ⟨#[]⟩) := b1.cell 0
  have t1 : W1.cell? ⟨w.heap.size, 1, none⟩ = some (.slice none 0 0) := b1.cell 1
  have HB := hide hb1
  have B1 := hide b1
  clear ht ha hb1 b1
  go_enter Tryd.func24, Tryd.ntmps24
  go_wp2_with fail
  refine AS.out.mono ?_
  rintro e w2 ⟨rfl, rfl⟩
  go_wp2_with fail
  have K6 : Blk ((W1.setCell ⟨w.heap.size, 0, none⟩ (.string ⟨#[]⟩)).setCell ⟨w.heap.size, 1, none⟩ (.slice none 0 0)) w.heap.size 24 #[.string ⟨#[]⟩, .slice none 0 0] := (B1.out.set_ 0 (.string ⟨#[]⟩)).set_ 1 (.slice none 0 0)
  have HB6 := (HB.out.setCell (p := ⟨w.heap.size, 0, none⟩) (Nat.le_refl _) (.string ⟨#[]⟩)).setCell (p := ⟨w.heap.size, 1, none⟩) (Nat.le_refl _) (.slice none 0 0)
  generalize ((W1.setCell ⟨w.heap.size, 0, none⟩ (.string ⟨#[]⟩)).setCell ⟨w.heap.size, 1, none⟩ (.slice none 0 0)) = W6 at *
  have u0 : W6.cell? ⟨w.heap.size, 0, none⟩ = some (.string ⟨#[]⟩) := K6.cell 0
  have u1 : W6.cell? ⟨w.heap.size, 1, none⟩ = some (.slice none 0 0) := K6.cell 1
  exact bodyPost_ret (v := .tuple #[.agg #[.string ⟨#[]⟩, .slice none 0 0], .int .i64 110]) (by simp [results, Tryd.results24, go_sem, u0, u1]) rfl ⟨rfl, HB6⟩
set_option maxRecDepth 100000 in
set_option maxHeartbeats 2000000 in
theorem At_yes (T B : Nat) (hs : List He) (i : Nat) (hi : i < hs.length) (w : World) (ht : TabA w T B hs) (hg : hs[i].gone = false) :
    Calls Tryd.prog 24 #[.pointer (some ⟨T, 0, none⟩), .int .i64 i] w fun e w' => ∃ g, e = .returned (.tuple #[.agg #[.string hs[i].key, .slice (some ⟨g, 0, none⟩) hs[i].l.length hs[i].l.length], .int .i64 0]) ∧ w.heap.size ≤ g ∧ Blk w' g 3 (ints hs[i].l).toArray ∧ Below w.heap.size w w' := by
  have hb1 := (Below.refl w.heap.size w).alloc (Nat.le_refl _) (.cells #[.string ⟨#[]⟩, .slice none 0 0] 24)
  have b1 := Blk.new w 24 #[.string ⟨#[]⟩, .slice none 0 0]
  have hs1 : (w.alloc (.cells #[.string ⟨#[]⟩, .slice none 0 0] 24)).heap.size = w.heap.size + 1 := by simp
  obtain ⟨W1, hW1⟩ : ∃ W1, w.alloc (.cells #[.string ⟨#[]⟩, .slice none 0 0] 24) = W1 := ⟨_, rfl⟩
  rw [hW1] at hb1 b1 hs1
  have ht1 := ht.below hb1
  have AS := hide (asked_a T B hs i W1 ht1)
  rw [ask_yes hi hg] at AS
  obtain ⟨gr, cr, hbT, _, _, _, hcr⟩ := ht1.open_
  have hT : W1.cell? ⟨T, 0, none⟩ = some (.slice (some ⟨gr, 0, none⟩) hs.length cr) := hbT.cell 0
  obtain ⟨c0, c1, c2⟩ := hcr i hi
  have hm := (ht1.rows i hi).2
  have O := hide (own_a hs[i].key hs[i].A hs[i].cap hs[i].l W1 (ht1.rows i hi).1.nrow (by have := hm.1; omega) (by have := hm.2.1; omega))
  have hiI : (i : Int) < (hs.length : Int) := by omega
  have HB := hide hb1
  have B1 := hide b1
  have HI := hide hi
  clear ht ht1 hg hbT hcr hm hb1 b1 c2
  generalize hs[i].key = key at *
  generalize hs[i].A = A at *
  generalize hs[i].cap = cap at *
  generalize hs[i].l = l at *
  clear hi
  go_enter Tryd.func24, Tryd.ntmps24
  go_wp2_with fail
  refine AS.out.mono ?_
  rintro e w2 ⟨rfl, rfl⟩
  go_wp2_with fail
  refine O.out.mono ?_
  rintro e w3 ⟨g, rfl, hge, hbk, hb3⟩
  have b3 := B1.out.below hb3 B1.out.lt
  have f0 := b3.frozen 0
  have f1 := b3.frozen 1
  have t0 : w3.cell? ⟨w.heap.size, 0, none⟩ = some (.string ⟨#[]⟩) := b3.cell 0
  have t1 : w3.cell? ⟨w.heap.size, 1, none⟩ = some (.slice none 0 0) := b3.cell 1
  have HB3 := hide (HB.out.trans (hb3.mono HB.out.size))
  have B3 := hide b3
  have G3 := hide hbk
  have HGE := hide (show w.heap.size + 1 ≤ g by omega)
  clear b3 hbk hb3 hge
  go_wp2_with fail
  have K6 : Blk ((w3.setCell ⟨w.heap.size, 0, none⟩ (.string key)).setCell ⟨w.heap.size, 1, none⟩ (.slice (some ⟨g, 0, none⟩) l.length l.length)) w.heap.size 24 #[.string key, .slice (some ⟨g, 0, none⟩) l.length l.length] := (B3.out.set_ 0 (.string key)).set_ 1 (.slice (some ⟨g, 0, none⟩) l.length l.length)
  have N6 := (G3.out.far (p := ⟨w.heap.size, 0, none⟩) (by show g ≠ w.heap.size; have := HGE.out; omega) (.string key)).far (p := ⟨w.heap.size, 1, none⟩) (by show g ≠ w.heap.size; have := HGE.out; omega) (.slice (some ⟨g, 0, none⟩) l.length l.length)
  have HB6 := (HB3.out.setCell (p := ⟨w.heap.size, 0, none⟩) (Nat.le_refl _) (.string key)).setCell (p := ⟨w.heap.size, 1, none⟩) (Nat.le_refl _) (.slice (some ⟨g, 0, none⟩) l.length l.length)
  generalize ((w3.setCell ⟨w.heap.size, 0, none⟩ (.string key)).setCell ⟨w.heap.size, 1, none⟩ (.slice (some ⟨g, 0, none⟩) l.length l.length)) = W6 at *
  have u0 : W6.cell? ⟨w.heap.size, 0, none⟩ = some (.string key) := K6.cell 0
  have u1 : W6.cell? ⟨w.heap.size, 1, none⟩ = some (.slice (some ⟨g, 0, none⟩) l.length l.length) := K6.cell 1
  exact bodyPost_ret (v := .tuple #[.agg #[.string key, .slice (some ⟨g, 0, none⟩) l.length l.length], .int .i64 0]) (by simp [results, Tryd.results24, go_sem, u0, u1]) rfl ⟨g, rfl, by have := HGE.out; omega, N6, HB6⟩
end Grp
end Go.Proofs.YtgiibknfkphkgaaDoor
