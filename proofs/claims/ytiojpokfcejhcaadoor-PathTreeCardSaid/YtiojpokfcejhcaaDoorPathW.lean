/- The chapter's example: a point of so many values, and awake. -/
import Derived.Test.YtiojpokfcejhcaaDoorRows
import Derived.Test.YtiojpokfcejhcaaDoorPathV
namespace Go.Proofs.YtiojpokfcejhcaaDoor
open Go Go.RowKit
set_option linter.unusedVariables false
set_option linter.unusedSimpArgs false
namespace Pth
def mk (r c : Int) (n : Nat) : List Ch := (List.range n).map fun (i : Nat) => ⟨r, c, (i : Int), 0, 0⟩
theorem mk_len (r c : Int) (n : Nat) : (mk r c n).length = n := by simp [mk]
theorem mk_succ (r c : Int) (n : Nat) : chs (mk r c (n + 1)) = chs (mk r c n) ++ [.int .i64 r, .int .i64 c, .int .i64 n, .int .i64 0, .int .i64 0] := by
  unfold mk
  rw [List.range_succ, List.map_append]
  simp [chs, chC]
set_option maxRecDepth 100000 in
set_option maxHeartbeats 8000000 in
theorem point_a (r c : Int) (n : Nat) (w : World) (hn : n ≤ 100) :
    Calls Tryd.prog 11 #[.int .i64 r, .int .i64 c, .int .i64 n] w fun e w' => ∃ v, e = .returned (.agg #[.int .i64 r, .int .i64 c, v]) ∧ w'.ownsRow w.heap.size 47 5 v n (chs (mk r c n)) ∧ Below w.heap.size w w' := by
  obtain ⟨i0, hi0, hz0, hz1, hz2⟩ := info_parts ch_info
  have HI := hide (And.intro hi0 (And.intro hz0 (And.intro hz1 hz2)))
  clear hi0 hz0 hz1 hz2
  have r1 := Blk.new w 36 #[.int .i64 0, .int .i64 0, .slice none 0 0]
  have hb1 := (Below.refl w.heap.size w).alloc (Nat.le_refl _) (.cells #[.int .i64 0, .int .i64 0, .slice none 0 0] 36)
  have hs1 : (w.alloc (.cells #[.int .i64 0, .int .i64 0, .slice none 0 0] 36)).heap.size = w.heap.size + 1 := by simp
  obtain ⟨W1, hW1⟩ : ∃ x, w.alloc (.cells #[.int .i64 0, .int .i64 0, .slice none 0 0] 36) = x := ⟨_, rfl⟩
  rw [hW1] at r1 hb1 hs1
  have p2 := Blk.new W1 36 #[.int .i64 0, .int .i64 0, .slice none 0 0]
  have r2 := r1.alloc (.cells #[.int .i64 0, .int .i64 0, .slice none 0 0] 36)
  have hb2 := hb1.alloc (by omega) (.cells #[.int .i64 0, .int .i64 0, .slice none 0 0] 36)
  obtain ⟨W2, hW2⟩ : ∃ x, W1.alloc (.cells #[.int .i64 0, .int .i64 0, .slice none 0 0] 36) = x := ⟨_, rfl⟩
  rw [hW2] at p2 r2 hb2
  rw [hs1] at p2
  have m0 : W2.cell? ⟨w.heap.size + 1, 0, none⟩ = some (.int .i64 0) := p2.cell 0
  have m1 : W2.cell? ⟨w.heap.size + 1, 1, none⟩ = some (.int .i64 0) := p2.cell 1
  have m2 : W2.cell? ⟨w.heap.size + 1, 2, none⟩ = some (.slice none 0 0) := p2.cell 2
  have g0 := p2.frozen 0
  have g1 := p2.frozen 1
  have g2 := p2.frozen 2
  have p3 : Blk (((W2.setCell ⟨w.heap.size + 1, 0, none⟩ (.int .i64 r)).setCell ⟨w.heap.size + 1, 1, none⟩ (.int .i64 c)).setCell ⟨w.heap.size + 1, 2, none⟩ (.slice none 0 0)) (w.heap.size + 1) 36 #[.int .i64 r, .int .i64 c, .slice none 0 0] := ((p2.set_ 0 (.int .i64 r)).set_ 1 (.int .i64 c)).set_ 2 (.slice none 0 0)
  have r3 := ((r2.far (p := ⟨w.heap.size + 1, 0, none⟩) (by show w.heap.size ≠ w.heap.size + 1; omega) (.int .i64 r)).far (p := ⟨w.heap.size + 1, 1, none⟩) (by show w.heap.size ≠ w.heap.size + 1; omega) (.int .i64 c)).far (p := ⟨w.heap.size + 1, 2, none⟩) (by show w.heap.size ≠ w.heap.size + 1; omega) (.slice none 0 0)
  have hb3 := ((hb2.setCell (p := ⟨w.heap.size + 1, 0, none⟩) (by show w.heap.size ≤ w.heap.size + 1; omega) (.int .i64 r)).setCell (p := ⟨w.heap.size + 1, 1, none⟩) (by show w.heap.size ≤ w.heap.size + 1; omega) (.int .i64 c)).setCell (p := ⟨w.heap.size + 1, 2, none⟩) (by show w.heap.size ≤ w.heap.size + 1; omega) (.slice none 0 0)
  obtain ⟨W3, hW3⟩ : ∃ x, ((W2.setCell ⟨w.heap.size + 1, 0, none⟩ (.int .i64 r)).setCell ⟨w.heap.size + 1, 1, none⟩ (.int .i64 c)).setCell ⟨w.heap.size + 1, 2, none⟩ (.slice none 0 0) = x := ⟨_, rfl⟩
  rw [hW3] at p3 r3 hb3
  have S3 : Hid (∃ v, Blk W3 (w.heap.size + 1) 36 #[.int .i64 r, .int .i64 c, v] ∧ W3.ownsRow w.heap.size 47 5 v 0 (chs (mk r c 0))) := hide ⟨_, p3, rfl, .inl ⟨rfl, rfl⟩⟩
  have R3 := hide r3
  have HB3 := hide hb3
  clear r1 r2 r3 p2 p3 hb1 hb2 hb3
  go_enter Tryd.func11, Tryd.ntmps11
  go_wp2_with fail
  clear hW1 hW2 hW3 m0 m1 m2 g0 g1 g2
  go_loopw [8] (fun vi wr => ∃ (k : Nat), k ≤ n ∧ vi = .int .i64 k ∧ Hid (∃ v, Blk wr (w.heap.size + 1) 36 #[.int .i64 r, .int .i64 c, v] ∧ wr.ownsRow w.heap.size 47 5 v k (chs (mk r c k))) ∧ Hid (Blk wr w.heap.size 36 #[.int .i64 0, .int .i64 0, .slice none 0 0]) ∧ Hid (Below w.heap.size w wr)) (fun vi _ => n - (intOf vi).toNat)
  case atStart => exact ⟨0, by omega, rfl, S3, R3, HB3⟩
  case round =>
    clear S3 R3 HB3
    obtain ⟨k, hk, rfl, HS, HR, HB⟩ := hrel
    obtain ⟨v, hbp, own⟩ := HS.out
    obtain ⟨a, ca, rfl⟩ := own_form own
    by_cases hlt : k < n
    · have hltI : (k : Int) < (n : Int) := by omega
      have u2 : wr.cell? ⟨w.heap.size + 1, 2, none⟩ = some (.slice a k ca) := hbp.cell 2
      have hba := (Below.refl wr.heap.size wr).alloc (Nat.le_refl _) (.cells #[.int .i64 r, .int .i64 c, .int .i64 k, .int .i64 0, .int .i64 0] 47)
      have hbb := Blk.new wr 47 #[.int .i64 r, .int .i64 c, .int .i64 k, .int .i64 0, .int .i64 0]
      have own2 := own_belowR own hba
      have hbp2 := hbp.below hba hbp.lt
      have hrr2 := HR.out.below hba HR.out.lt
      have hB2 := HB.out.trans (hba.mono HB.out.size)
      obtain ⟨W, hW⟩ : ∃ W, wr.alloc (.cells #[.int .i64 r, .int .i64 c, .int .i64 k, .int .i64 0, .int .i64 0] 47) = W := ⟨_, rfl⟩
      rw [hW] at hbb own2 hbp2 hrr2 hB2
      have hrd : Reads W W.heap.size 5 (some ⟨wr.heap.size, 0, none⟩) 1 [.int .i64 r, .int .i64 c, .int .i64 k, .int .i64 0, .int .i64 0] := ⟨rfl, fun _ => ⟨_, rfl, hbb.lt, fun j u hu => by rw [add_lit, hbb.cell]; simpa using hu⟩⟩
      obtain ⟨hi0, hz0, hz1, hz2⟩ := HI.out
      obtain ⟨v11, w11, hrun, hown, hg, _⟩ := run_append_any (P := Tryd.prog) W w.heap.size 34 34 47 i0 _ 5 40 Tryd.underlying34 hi0 hz0 hz1 hz2 (by rfl) (by omega) _ _ _ own2 W.heap.size (some ⟨wr.heap.size, 0, none⟩) 1 1 _ hrd (by intro u hu; simp only [List.mem_cons, List.not_mem_nil, or_false] at hu; rcases hu with rfl | rfl | rfl | rfl | rfl <;> rfl) (by unfold maxLen; omega) (by omega) hB2.size
      have hnP := own_blk_ne own2 hbp2 (by decide)
      have hnR := own_blk_ne own2 hrr2 (by decide)
      have hbp3 := hbp2.grown hg (fun e => hnP e.symm)
      have hrr3 := hrr2.grown hg (fun e => hnR e.symm)
      have u2' : w11.cell? ⟨w.heap.size + 1, 2, none⟩ = some (.slice a k ca) := hbp3.cell 2
      have f2' := hbp3.frozen 2
      have hB3 := hB2.grown hg hB2.size (fun j e => (own_block own2 e).1)
      have hnP3 := own_blk_ne hown hbp3 (by decide)
      have S4 : Hid (∃ v, Blk (w11.setCell ⟨w.heap.size + 1, 2, none⟩ v11) (w.heap.size + 1) 36 #[.int .i64 r, .int .i64 c, v] ∧ (w11.setCell ⟨w.heap.size + 1, 2, none⟩ v11).ownsRow w.heap.size 47 5 v (k + 1) (chs (mk r c (k + 1)))) := hide ⟨v11, hbp3.set_ 2 v11, by rw [mk_succ]; exact own_setCell hown (p := ⟨w.heap.size + 1, 2, none⟩) hnP3 v11⟩
      have R4 := hide (hrr3.far (p := ⟨w.heap.size + 1, 2, none⟩) (by show w.heap.size ≠ w.heap.size + 1; omega) v11)
      have HB4 := hide (hB3.setCell (p := ⟨w.heap.size + 1, 2, none⟩) (by show w.heap.size ≤ w.heap.size + 1; omega) v11)
      obtain ⟨a11, c11, rfl⟩ := own_form hown
      clear hba hbb own2 hbp2 hrr2 hB2 hrd hi0 hz0 hz1 hz2 hown hg hnP hnR hbp3 hrr3 hB3 hnP3 hbp own HS
      go_wp2_with (at_builtin; refine Lib.wpList_append_run _ rfl (.tmp 18) (.tmp 23) _ _ rfl _ _ rfl rfl _ w11 hrun ?_)
      go_roundw
      case rel => exact ⟨k + 1, by omega, by go_num, S4, R4, HB4⟩
      case measure => simp [intOf]; omega
    · have hk2 : k = n := by omega
      subst hk2
      have hltI : ¬ (k : Int) < (k : Int) := by omega
      have q0 : wr.cell? ⟨w.heap.size + 1, 0, none⟩ = some (.int .i64 r) := hbp.cell 0
      have q1 : wr.cell? ⟨w.heap.size + 1, 1, none⟩ = some (.int .i64 c) := hbp.cell 1
      have q2 : wr.cell? ⟨w.heap.size + 1, 2, none⟩ = some (.slice a k ca) := hbp.cell 2
      have t0 : wr.cell? ⟨w.heap.size, 0, none⟩ = some (.int .i64 0) := HR.out.cell 0
      have t1 : wr.cell? ⟨w.heap.size, 1, none⟩ = some (.int .i64 0) := HR.out.cell 1
      have t2 : wr.cell? ⟨w.heap.size, 2, none⟩ = some (.slice none 0 0) := HR.out.cell 2
      have f0 := HR.out.frozen 0
      have f1 := HR.out.frozen 1
      have f2 := HR.out.frozen 2
      have hnR := own_blk_ne own HR.out (by decide)
      have K6 : Blk (((wr.setCell ⟨w.heap.size, 0, none⟩ (.int .i64 r)).setCell ⟨w.heap.size, 1, none⟩ (.int .i64 c)).setCell ⟨w.heap.size, 2, none⟩ (.slice a k ca)) w.heap.size 36 #[.int .i64 r, .int .i64 c, .slice a k ca] := ((HR.out.set_ 0 (.int .i64 r)).set_ 1 (.int .i64 c)).set_ 2 (.slice a k ca)
      have O6 := own_setCell (own_setCell (own_setCell own (p := ⟨w.heap.size, 0, none⟩) hnR (.int .i64 r)) (p := ⟨w.heap.size, 1, none⟩) hnR (.int .i64 c)) (p := ⟨w.heap.size, 2, none⟩) hnR (.slice a k ca)
      have B6 := ((HB.out.setCell (p := ⟨w.heap.size, 0, none⟩) (Nat.le_refl _) (.int .i64 r)).setCell (p := ⟨w.heap.size, 1, none⟩) (Nat.le_refl _) (.int .i64 c)).setCell (p := ⟨w.heap.size, 2, none⟩) (Nat.le_refl _) (.slice a k ca)
      obtain ⟨W6, hW6⟩ : ∃ x, ((wr.setCell ⟨w.heap.size, 0, none⟩ (.int .i64 r)).setCell ⟨w.heap.size, 1, none⟩ (.int .i64 c)).setCell ⟨w.heap.size, 2, none⟩ (.slice a k ca) = x := ⟨_, rfl⟩
      rw [hW6] at K6 O6 B6
      have s0 : W6.cell? ⟨w.heap.size, 0, none⟩ = some (.int .i64 r) := K6.cell 0
      have s1 : W6.cell? ⟨w.heap.size, 1, none⟩ = some (.int .i64 c) := K6.cell 1
      have s2 : W6.cell? ⟨w.heap.size, 2, none⟩ = some (.slice a k ca) := K6.cell 2
      have FIN := hide (And.intro O6 B6)
      clear K6 O6 B6 hnR hbp own HS
      go_wp2_with fail
      exact bodyPost_ret (v := .agg #[.int .i64 r, .int .i64 c, .slice a k ca]) (by simp [results, Tryd.results11, go_sem, s0, s1, s2]) rfl ⟨_, rfl, FIN.out.1, FIN.out.2⟩
end Pth
end Go.Proofs.YtiojpokfcejhcaaDoor
