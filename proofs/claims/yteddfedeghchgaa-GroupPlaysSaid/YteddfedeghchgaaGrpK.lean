/- A rank's handles, as the reference keeps them: At. -/
import Derived.Test.YteddfedeghchgaaRows
import Derived.Test.YteddfedeghchgaaGrpJ
namespace Go.Proofs.Yteddfedeghchgaa
open Go.RowKit
set_option linter.unusedVariables false
set_option linter.unusedSimpArgs false
namespace Grp
theorem TabB.open_ {w : World} {U B : Nat} {hs : List He} (h : TabB w U B hs) : ∃ g c g2 c2, Blk w U 53 #[.slice (some ⟨g, 0, none⟩) hs.length c, .slice (some ⟨g2, 0, none⟩) hs.length c2] ∧ B ≤ g ∧ g < w.heap.size ∧ B ≤ g2 ∧ g2 < w.heap.size ∧ (∀ k, w.frozen? ⟨g2, k, none⟩ = false) ∧ ∀ i (hi : i < hs.length), w.cell? ⟨g, i * 2, none⟩ = some (.string hs[i].key) ∧ w.cell? ⟨g, i * 2 + 1, none⟩ = some (.slice hs[i].A hs[i].l.length hs[i].cap) ∧ w.cell? ⟨g2, i, none⟩ = some (.bool hs[i].gone) := by
  obtain ⟨v, u, hb, ho, ho2⟩ := h.tab
  have hp := h.pos
  rcases ho.2 with ⟨_, h0⟩ | ⟨g, cap, cur, rfl, hge, hh, hnc, _, hcs, htk⟩
  · omega
  rcases ho2.2 with ⟨_, h0⟩ | ⟨g2, cap2, cur2, rfl, hge2, hh2, hnc2, _, hcs2, htk2⟩
  · omega
  have hB : Blk w g _ cur := hh
  have hB2 : Blk w g2 _ cur2 := hh2
  refine ⟨g, cap, g2, cap2, hb, hge, hB.lt, hge2, hB2.lt, hB2.frozen, fun i hi => ?_⟩
  have hc : ∀ j u, j < 2 → (hgC hs[i])[j]? = some u → w.cell? ⟨g, i * 2 + j, none⟩ = some u := fun j u hj hu => by
    have e := hgCs_at hs i hi j hj
    rw [hu, ← htk, List.getElem?_take] at e
    split at e
    · rw [hB.cell]
      simpa using e
    · cases e
  have hc2 : w.cell? ⟨g2, i, none⟩ = some (.bool hs[i].gone) := by
    have e : (gnC hs)[i]? = some (.bool hs[i].gone) := by simp [gnC, hi]
    rw [← htk2, List.getElem?_take] at e
    split at e
    · rw [hB2.cell]
      simpa using e
    · cases e
  exact ⟨hc 0 _ (by omega) rfl, hc 1 _ (by omega) rfl, hc2⟩
set_option maxRecDepth 100000 in
set_option maxHeartbeats 2000000 in
theorem AtB_no (U B : Nat) (hs : List He) (h : Int) (w : World) (ht : TabB w U B hs) (ha : askC hs h = 110) :
    Calls Try.prog 10 #[.pointer (some ⟨U, 0, none⟩), .int .i64 h] w fun e w' => e = .returned (.tuple #[.agg #[.string ⟨#[]⟩, .slice none 0 0], .int .i64 110]) ∧ Below w.heap.size w w' := by
  have hb1 := (Below.refl w.heap.size w).alloc (Nat.le_refl _) (.cells #[.string ⟨#[]⟩, .slice none 0 0] 24)
  have b1 := Blk.new w 24 #[.string ⟨#[]⟩, .slice none 0 0]
  obtain ⟨W1, hW1⟩ : ∃ W1, w.alloc (.cells #[.string ⟨#[]⟩, .slice none 0 0] 24) = W1 := ⟨_, rfl⟩
  rw [hW1] at hb1 b1
  obtain ⟨g, c, g2, c2, hU, _, _, _, _, _, hcc⟩ := (ht.below hb1).open_
  have u0 : W1.cell? ⟨U, 0, none⟩ = some (.slice (some ⟨g, 0, none⟩) hs.length c) := hU.cell 0
  have u1 : W1.cell? ⟨U, 1, none⟩ = some (.slice (some ⟨g2, 0, none⟩) hs.length c2) := hU.cell 1
  have f0 := b1.frozen 0
  have f1 := b1.frozen 1
  have t0 : W1.cell? ⟨w.heap.size, 0, none⟩ = some (.string ⟨#[]⟩) := b1.cell 0
  have t1 : W1.cell? ⟨w.heap.size, 1, none⟩ = some (.slice none 0 0) := b1.cell 1
  have HB := hide hb1
  have B1 := hide b1
  have cases3 : h < 0 ∨ (¬ h < 0 ∧ (hs.length : Int) ≤ h) ∨ ∃ i : Nat, h = i ∧ i < hs.length ∧ W1.cell? ⟨g2, i, none⟩ = some (.bool true) := by
    by_cases h0 : h < 0
    · exact .inl h0
    by_cases h1 : (hs.length : Int) ≤ h
    · exact .inr (.inl ⟨h0, h1⟩)
    obtain ⟨i, rfl⟩ := Int.eq_ofNat_of_zero_le (show 0 ≤ h by omega)
    have hi : i < hs.length := by omega
    refine .inr (.inr ⟨i, rfl, hi, ?_⟩)
    rw [(hcc i hi).2.2]
    cases hg : hs[i].gone with
    | true => rfl
    | false => rw [ask_yes hi hg] at ha; cases ha
  clear ht ha hb1 b1 hU hcc
  rcases cases3 with h0 | ⟨h0, h1⟩ | ⟨i, rfl, hi, c3⟩
  rotate_left 2
  · have hiI : (i : Int) < (hs.length : Int) := by omega
    go_enter Try.func10, Try.ntmps10
    go_wp2_with fail
    have K6 : Blk ((W1.setCell ⟨w.heap.size, 0, none⟩ (.string ⟨#[]⟩)).setCell ⟨w.heap.size, 1, none⟩ (.slice none 0 0)) w.heap.size 24 #[.string ⟨#[]⟩, .slice none 0 0] := (B1.out.set_ 0 (.string ⟨#[]⟩)).set_ 1 (.slice none 0 0)
    have HB6 := (HB.out.setCell (p := ⟨w.heap.size, 0, none⟩) (Nat.le_refl _) (.string ⟨#[]⟩)).setCell (p := ⟨w.heap.size, 1, none⟩) (Nat.le_refl _) (.slice none 0 0)
    generalize ((W1.setCell ⟨w.heap.size, 0, none⟩ (.string ⟨#[]⟩)).setCell ⟨w.heap.size, 1, none⟩ (.slice none 0 0)) = W6 at *
    have v0 : W6.cell? ⟨w.heap.size, 0, none⟩ = some (.string ⟨#[]⟩) := K6.cell 0
    have v1 : W6.cell? ⟨w.heap.size, 1, none⟩ = some (.slice none 0 0) := K6.cell 1
    exact bodyPost_ret (v := .tuple #[.agg #[.string ⟨#[]⟩, .slice none 0 0], .int .i64 110]) (by simp [results, Try.results10, go_sem, v0, v1]) rfl ⟨rfl, HB6⟩
  all_goals
    go_enter Try.func10, Try.ntmps10
    go_wp2_with fail
    have K6 : Blk ((W1.setCell ⟨w.heap.size, 0, none⟩ (.string ⟨#[]⟩)).setCell ⟨w.heap.size, 1, none⟩ (.slice none 0 0)) w.heap.size 24 #[.string ⟨#[]⟩, .slice none 0 0] := (B1.out.set_ 0 (.string ⟨#[]⟩)).set_ 1 (.slice none 0 0)
    have HB6 := (HB.out.setCell (p := ⟨w.heap.size, 0, none⟩) (Nat.le_refl _) (.string ⟨#[]⟩)).setCell (p := ⟨w.heap.size, 1, none⟩) (Nat.le_refl _) (.slice none 0 0)
    generalize ((W1.setCell ⟨w.heap.size, 0, none⟩ (.string ⟨#[]⟩)).setCell ⟨w.heap.size, 1, none⟩ (.slice none 0 0)) = W6 at *
    have v0 : W6.cell? ⟨w.heap.size, 0, none⟩ = some (.string ⟨#[]⟩) := K6.cell 0
    have v1 : W6.cell? ⟨w.heap.size, 1, none⟩ = some (.slice none 0 0) := K6.cell 1
    exact bodyPost_ret (v := .tuple #[.agg #[.string ⟨#[]⟩, .slice none 0 0], .int .i64 110]) (by simp [results, Try.results10, go_sem, v0, v1]) rfl ⟨rfl, HB6⟩
set_option maxRecDepth 100000 in
set_option maxHeartbeats 2000000 in
theorem AtB_yes (U B : Nat) (hs : List He) (i : Nat) (hi : i < hs.length) (w : World) (ht : TabB w U B hs) (hg : hs[i].gone = false) :
    Calls Try.prog 10 #[.pointer (some ⟨U, 0, none⟩), .int .i64 i] w fun e w' => ∃ v, e = .returned (.tuple #[.agg #[.string hs[i].key, v], .int .i64 0]) ∧ w'.ownsRow w.heap.size 3 1 v hs[i].l.length (ints hs[i].l) ∧ Below w.heap.size w w' := by
  have hb1 := (Below.refl w.heap.size w).alloc (Nat.le_refl _) (.cells #[.string ⟨#[]⟩, .slice none 0 0] 24)
  have b1 := Blk.new w 24 #[.string ⟨#[]⟩, .slice none 0 0]
  have hs1 : (w.alloc (.cells #[.string ⟨#[]⟩, .slice none 0 0] 24)).heap.size = w.heap.size + 1 := by simp
  obtain ⟨W1, hW1⟩ : ∃ W1, w.alloc (.cells #[.string ⟨#[]⟩, .slice none 0 0] 24) = W1 := ⟨_, rfl⟩
  rw [hW1] at hb1 b1 hs1
  have ht1 := ht.below hb1
  obtain ⟨g, c, g2, c2, hU, _, _, _, _, _, hcc⟩ := ht1.open_
  have u0 : W1.cell? ⟨U, 0, none⟩ = some (.slice (some ⟨g, 0, none⟩) hs.length c) := hU.cell 0
  have u1 : W1.cell? ⟨U, 1, none⟩ = some (.slice (some ⟨g2, 0, none⟩) hs.length c2) := hU.cell 1
  obtain ⟨k0, k1, k2⟩ := hcc i hi
  rw [hg] at k2
  have hm := (ht1.rows i hi).2
  have O := hide (Copy_b hs[i].key hs[i].A hs[i].cap hs[i].l W1 (ht1.rows i hi).1.nrow (by have := hm.2.1; omega))
  have hiI : (i : Int) < (hs.length : Int) := by omega
  have HB := hide hb1
  have B1 := hide b1
  clear ht ht1 hg hU hcc hm hb1 b1
  generalize hs[i].key = key at *
  generalize hs[i].A = A at *
  generalize hs[i].cap = cap at *
  generalize hs[i].l = l at *
  clear hi
  go_enter Try.func10, Try.ntmps10
  go_wp2_with fail
  refine O.out.mono ?_
  rintro e w3 ⟨v, rfl, ho, hb3⟩
  obtain ⟨a9, c9, rfl⟩ := own_form ho
  have b3 := B1.out.below hb3 B1.out.lt
  have f0 := b3.frozen 0
  have f1 := b3.frozen 1
  have t0 : w3.cell? ⟨w.heap.size, 0, none⟩ = some (.string ⟨#[]⟩) := b3.cell 0
  have t1 : w3.cell? ⟨w.heap.size, 1, none⟩ = some (.slice none 0 0) := b3.cell 1
  have hne := own_blk_ne ho b3 (by decide)
  have HB3 := hide (HB.out.trans (hb3.mono HB.out.size))
  have B3 := hide b3
  have OW : Hid (w3.ownsRow w.heap.size 3 1 (.slice a9 l.length c9) l.length (ints l)) := hide ⟨ho.1, ho.2.imp id fun ⟨g', cap', cur', h1, h2, h3⟩ => ⟨g', cap', cur', h1, by omega, h3⟩⟩
  have HNE := hide hne
  clear b3 ho hb3 hne
  go_wp2_with fail
  have K6 : Blk ((w3.setCell ⟨w.heap.size, 0, none⟩ (.string key)).setCell ⟨w.heap.size, 1, none⟩ (.slice a9 l.length c9)) w.heap.size 24 #[.string key, .slice a9 l.length c9] := (B3.out.set_ 0 (.string key)).set_ 1 (.slice a9 l.length c9)
  have O6 := own_setCell (own_setCell OW.out (p := ⟨w.heap.size, 0, none⟩) HNE.out (.string key)) (p := ⟨w.heap.size, 1, none⟩) HNE.out (.slice a9 l.length c9)
  have HB6 := (HB3.out.setCell (p := ⟨w.heap.size, 0, none⟩) (Nat.le_refl _) (.string key)).setCell (p := ⟨w.heap.size, 1, none⟩) (Nat.le_refl _) (.slice a9 l.length c9)
  generalize ((w3.setCell ⟨w.heap.size, 0, none⟩ (.string key)).setCell ⟨w.heap.size, 1, none⟩ (.slice a9 l.length c9)) = W6 at *
  have v0 : W6.cell? ⟨w.heap.size, 0, none⟩ = some (.string key) := K6.cell 0
  have v1 : W6.cell? ⟨w.heap.size, 1, none⟩ = some (.slice a9 l.length c9) := K6.cell 1
  exact bodyPost_ret (v := .tuple #[.agg #[.string key, .slice a9 l.length c9], .int .i64 0]) (by simp [results, Try.results10, go_sem, v0, v1]) rfl ⟨_, rfl, O6, HB6⟩
end Grp
end Go.Proofs.Yteddfedeghchgaa
