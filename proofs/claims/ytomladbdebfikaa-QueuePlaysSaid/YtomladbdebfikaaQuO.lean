/- The document's queue: Find, First. -/
import Derived.Test.YtomladbdebfikaaRows
import Derived.Test.YtomladbdebfikaaQuN
import Derived.Deep.CutRange
namespace Go.Proofs.Ytomladbdebfikaa
open Go Go.RowKit Go.Lib
set_option linter.unusedVariables false
set_option linter.unusedSimpArgs false
namespace Qu
set_option maxRecDepth 100000 in
set_option maxHeartbeats 16000000 in
theorem Find_b {w : World} {p : Nat} {l : List Msg} (h : RSt w p l) (v : Who) (hl : l.length ≤ 1000) :
    Calls Try.prog 21 #[.pointer (some ⟨p, 0, none⟩), .int .i64 v.fr, .int .i64 v.ca] w fun e w' => e = .returned (tellV (findL l v)) ∧ Below w.heap.size w w' := by
  have b1 := (Below.refl w.heap.size w).alloc (Nat.le_refl _) (.cells #[.string ⟨#[]⟩, .int .i64 0, .int .i64 0, .int .i64 0, .int .i64 0, .int .i64 0, .int .i64 0, .bool false] 31)
  have kx := Blk.new w 31 #[.string ⟨#[]⟩, .int .i64 0, .int .i64 0, .int .i64 0, .int .i64 0, .int .i64 0, .int .i64 0, .bool false]
  have q1 := h.below b1
  go_enter Try.func21, Try.ntmps21
  go_upto_region 1 with (fail)
  obtain ⟨w1, hw1⟩ : ∃ z, w.alloc (.cells #[.string ⟨#[]⟩, .int .i64 0, .int .i64 0, .int .i64 0, .int .i64 0, .int .i64 0, .int .i64 0, .bool false] 31) = z := ⟨_, rfl⟩
  rw [hw1] at b1 kx q1 ⊢
  obtain ⟨X, hX⟩ : ∃ X, w.heap.size = X := ⟨_, rfl⟩
  rw [hX] at b1 kx ⊢
  have HQ1 := hide q1
  have KX := hide kx
  have HB1 := hide b1
  have HX := hide hX
  have PC := hide (place_b q1 v hl)
  obtain ⟨A, cap, hb, hown⟩ := q1
  have MR := hide (MRow.of_own hown rfl)
  have c0 : w1.cell? ⟨p, 0, none⟩ = some (.slice A l.length cap) := hb.cell 0
  clear hb hown kx b1 hw1 hX h
  go_wp2_with fail
  refine PC.out.mono ?_
  rintro e w1b ⟨rfl, hw1b⟩
  obtain rfl : w1 = w1b := hw1b
  cases hp : plc l v with
  | none =>
    have FN : Hid (findL l v = none) := hide (by unfold findL; rw [hp]; rfl)
    have e1 : plcI l v = -1 := by unfold plcI; rw [hp]
    rw [e1]
    clear e1 hp PC
    have z0 : w1.cell? ⟨X, 0, none⟩ = some (.string ⟨#[]⟩) := KX.out.cell 0
    have z1 : w1.cell? ⟨X, 1, none⟩ = some (.int .i64 0) := KX.out.cell 1
    have z2 : w1.cell? ⟨X, 2, none⟩ = some (.int .i64 0) := KX.out.cell 2
    have z3 : w1.cell? ⟨X, 3, none⟩ = some (.int .i64 0) := KX.out.cell 3
    have z4 : w1.cell? ⟨X, 4, none⟩ = some (.int .i64 0) := KX.out.cell 4
    have z5 : w1.cell? ⟨X, 5, none⟩ = some (.int .i64 0) := KX.out.cell 5
    have z6 : w1.cell? ⟨X, 6, none⟩ = some (.int .i64 0) := KX.out.cell 6
    have z7 : w1.cell? ⟨X, 7, none⟩ = some (.bool false) := KX.out.cell 7
    have f0 := KX.out.frozen 0
    have f1 := KX.out.frozen 1
    have f2 := KX.out.frozen 2
    have f3 := KX.out.frozen 3
    have f4 := KX.out.frozen 4
    have f5 := KX.out.frozen 5
    have f6 := KX.out.frozen 6
    have f7 := KX.out.frozen 7
    have k9 := put8 (KX.out) (.string ⟨#[]⟩) (.int .i64 0) (.int .i64 0) (.int .i64 0) (.int .i64 0) (.int .i64 0) (.int .i64 0) (.bool false)
    have b9 := bel8 (HB1.out) (.string ⟨#[]⟩) (.int .i64 0) (.int .i64 0) (.int .i64 0) (.int .i64 0) (.int .i64 0) (.int .i64 0) (.bool false)
    obtain ⟨w9, hw9⟩ : ∃ z, ((((((((w1.setCell ⟨X, 0, none⟩ (.string ⟨#[]⟩)).setCell ⟨X, 1, none⟩ (.int .i64 0)).setCell ⟨X, 2, none⟩ (.int .i64 0)).setCell ⟨X, 3, none⟩ (.int .i64 0)).setCell ⟨X, 4, none⟩ (.int .i64 0)).setCell ⟨X, 5, none⟩ (.int .i64 0)).setCell ⟨X, 6, none⟩ (.int .i64 0)).setCell ⟨X, 7, none⟩ (.bool false)) = z := ⟨_, rfl⟩
    rw [hw9] at k9 b9
    have u0 : w9.cell? ⟨X, 0, none⟩ = some (.string ⟨#[]⟩) := k9.cell 0
    have u1 : w9.cell? ⟨X, 1, none⟩ = some (.int .i64 0) := k9.cell 1
    have u2 : w9.cell? ⟨X, 2, none⟩ = some (.int .i64 0) := k9.cell 2
    have u3 : w9.cell? ⟨X, 3, none⟩ = some (.int .i64 0) := k9.cell 3
    have u4 : w9.cell? ⟨X, 4, none⟩ = some (.int .i64 0) := k9.cell 4
    have u5 : w9.cell? ⟨X, 5, none⟩ = some (.int .i64 0) := k9.cell 5
    have u6 : w9.cell? ⟨X, 6, none⟩ = some (.int .i64 0) := k9.cell 6
    have u7 : w9.cell? ⟨X, 7, none⟩ = some (.bool false) := k9.cell 7
    have HB9 := hide b9
    clear k9 b9
    go_wp2_with fail
    exact bodyPost_ret (v := .tuple #[.agg #[.string ⟨#[]⟩, .int .i64 0, .int .i64 0, .int .i64 0, .int .i64 0, .int .i64 0, .int .i64 0, .bool false], .bool false]) (by simp [results, Try.results21, go_sem, u0, u1, u2, u3, u4, u5, u6, u7]) rfl ⟨by rw [FN.out]; rfl, by rw [HX.out]; exact HB9.out⟩
  | some i =>
    obtain ⟨⟨mk, mf, mt, mc, mg, mv, mz, mb⟩, hm, hw⟩ := plc_some hp
    have hil := plc_lt hp
    have e1 : plcI l v = (i : Int) := by unfold plcI; rw [hp]
    rw [e1]
    have FS : Hid (findL l v = some ⟨mk, mf, mt, mc, mg, mv, mz, mb⟩) := hide (by
      unfold findL
      rw [hp, Option.map_some, List.getD_eq_getElem?_getD, hm]
      rfl)
    obtain ⟨g, rfl, hg, hit⟩ := MR.out.it i _ hm
    have n0 : w1.cell? ⟨g, i * 8, none⟩ = some (.string mk) := hit 0 _ rfl
    have n1 : w1.cell? ⟨g, i * 8 + 1, none⟩ = some (.int .i64 mf) := hit 1 _ rfl
    have n2 : w1.cell? ⟨g, i * 8 + 2, none⟩ = some (.int .i64 mt) := hit 2 _ rfl
    have n3 : w1.cell? ⟨g, i * 8 + 3, none⟩ = some (.int .i64 mc) := hit 3 _ rfl
    have n4 : w1.cell? ⟨g, i * 8 + 4, none⟩ = some (.int .i64 mg) := hit 4 _ rfl
    have n5 : w1.cell? ⟨g, i * 8 + 5, none⟩ = some (.int .i64 mv) := hit 5 _ rfl
    have n6 : w1.cell? ⟨g, i * 8 + 6, none⟩ = some (.int .i64 mz) := hit 6 _ rfl
    have n7 : w1.cell? ⟨g, i * 8 + 7, none⟩ = some (.bool mb) := hit 7 _ rfl
    have lt1 : (i : Int) < (l.length : Int) := by omega
    clear hit hm hw e1 hp PC hg
    have z0 : w1.cell? ⟨X, 0, none⟩ = some (.string ⟨#[]⟩) := KX.out.cell 0
    have z1 : w1.cell? ⟨X, 1, none⟩ = some (.int .i64 0) := KX.out.cell 1
    have z2 : w1.cell? ⟨X, 2, none⟩ = some (.int .i64 0) := KX.out.cell 2
    have z3 : w1.cell? ⟨X, 3, none⟩ = some (.int .i64 0) := KX.out.cell 3
    have z4 : w1.cell? ⟨X, 4, none⟩ = some (.int .i64 0) := KX.out.cell 4
    have z5 : w1.cell? ⟨X, 5, none⟩ = some (.int .i64 0) := KX.out.cell 5
    have z6 : w1.cell? ⟨X, 6, none⟩ = some (.int .i64 0) := KX.out.cell 6
    have z7 : w1.cell? ⟨X, 7, none⟩ = some (.bool false) := KX.out.cell 7
    have f0 := KX.out.frozen 0
    have f1 := KX.out.frozen 1
    have f2 := KX.out.frozen 2
    have f3 := KX.out.frozen 3
    have f4 := KX.out.frozen 4
    have f5 := KX.out.frozen 5
    have f6 := KX.out.frozen 6
    have f7 := KX.out.frozen 7
    have k9 := put8 (KX.out) (.string mk) (.int .i64 mf) (.int .i64 mt) (.int .i64 mc) (.int .i64 mg) (.int .i64 mv) (.int .i64 mz) (.bool mb)
    have b9 := bel8 (HB1.out) (.string mk) (.int .i64 mf) (.int .i64 mt) (.int .i64 mc) (.int .i64 mg) (.int .i64 mv) (.int .i64 mz) (.bool mb)
    obtain ⟨w9, hw9⟩ : ∃ z, ((((((((w1.setCell ⟨X, 0, none⟩ (.string mk)).setCell ⟨X, 1, none⟩ (.int .i64 mf)).setCell ⟨X, 2, none⟩ (.int .i64 mt)).setCell ⟨X, 3, none⟩ (.int .i64 mc)).setCell ⟨X, 4, none⟩ (.int .i64 mg)).setCell ⟨X, 5, none⟩ (.int .i64 mv)).setCell ⟨X, 6, none⟩ (.int .i64 mz)).setCell ⟨X, 7, none⟩ (.bool mb)) = z := ⟨_, rfl⟩
    rw [hw9] at k9 b9
    have u0 : w9.cell? ⟨X, 0, none⟩ = some (.string mk) := k9.cell 0
    have u1 : w9.cell? ⟨X, 1, none⟩ = some (.int .i64 mf) := k9.cell 1
    have u2 : w9.cell? ⟨X, 2, none⟩ = some (.int .i64 mt) := k9.cell 2
    have u3 : w9.cell? ⟨X, 3, none⟩ = some (.int .i64 mc) := k9.cell 3
    have u4 : w9.cell? ⟨X, 4, none⟩ = some (.int .i64 mg) := k9.cell 4
    have u5 : w9.cell? ⟨X, 5, none⟩ = some (.int .i64 mv) := k9.cell 5
    have u6 : w9.cell? ⟨X, 6, none⟩ = some (.int .i64 mz) := k9.cell 6
    have u7 : w9.cell? ⟨X, 7, none⟩ = some (.bool mb) := k9.cell 7
    have HB9 := hide b9
    clear k9 b9
    go_wp2_with fail
    exact bodyPost_ret (v := .tuple #[.agg #[.string mk, .int .i64 mf, .int .i64 mt, .int .i64 mc, .int .i64 mg, .int .i64 mv, .int .i64 mz, .bool mb], .bool true]) (by simp [results, Try.results21, go_sem, u0, u1, u2, u3, u4, u5, u6, u7]) rfl ⟨by rw [FS.out]; rfl, by rw [HX.out]; exact HB9.out⟩
set_option maxRecDepth 100000 in
set_option maxHeartbeats 16000000 in
theorem First_b {w : World} {p : Nat} {l : List Msg} (h : RSt w p l) (c : Chan) (tag : Int) (hl : l.length ≤ 1000) :
    Calls Try.prog 23 #[.pointer (some ⟨p, 0, none⟩), .string c.key, .int .i64 c.fr, .int .i64 c.to, .int .i64 tag] w fun e w' => e = .returned (tellV (firstL l c tag)) ∧ Below w.heap.size w w' := by
  have b1 := (Below.refl w.heap.size w).alloc (Nat.le_refl _) (.cells #[.string ⟨#[]⟩, .int .i64 0, .int .i64 0, .int .i64 0, .int .i64 0, .int .i64 0, .int .i64 0, .bool false] 31)
  have kx := Blk.new w 31 #[.string ⟨#[]⟩, .int .i64 0, .int .i64 0, .int .i64 0, .int .i64 0, .int .i64 0, .int .i64 0, .bool false]
  have q1 := h.below b1
  go_enter Try.func23, Try.ntmps23
  go_upto_region 1 with (fail)
  obtain ⟨w1, hw1⟩ : ∃ z, w.alloc (.cells #[.string ⟨#[]⟩, .int .i64 0, .int .i64 0, .int .i64 0, .int .i64 0, .int .i64 0, .int .i64 0, .bool false] 31) = z := ⟨_, rfl⟩
  rw [hw1] at b1 kx q1 ⊢
  obtain ⟨X, hX⟩ : ∃ X, w.heap.size = X := ⟨_, rfl⟩
  rw [hX] at b1 kx ⊢
  have HQ1 := hide q1
  have KX := hide kx
  have HB1 := hide b1
  have HX := hide hX
  obtain ⟨n, hn⟩ : ∃ n, l.length = n := ⟨_, rfl⟩
  have HN := hide hn
  have HNL := hide (show n ≤ 1000 by omega)
  clear hn kx b1 q1 hw1 hX h
  go_wp2_with fail
  go_loopw [12, 13] (fun v12 _ wr => ∃ i : Nat, i ≤ n ∧ v12 = .int .i64 i ∧ Hid (∀ m ∈ l.take i, (isM m c && tagged tag m) = false) ∧ Hid (RSt wr p l) ∧ Hid (Blk wr X 31 #[.string ⟨#[]⟩, .int .i64 0, .int .i64 0, .int .i64 0, .int .i64 0, .int .i64 0, .int .i64 0, .bool false]) ∧ Hid (Below X w wr)) (fun v12 _ _ => n - (RowKit.intOf v12).toNat)
  case atStart => exact ⟨0, Nat.zero_le _, rfl, hide (fun m hm => absurd hm (by simp)), HQ1, KX, HB1⟩
  case round =>
    obtain ⟨i, hi, rfl, HNO, HQR, KXR, HBR⟩ := hrel
    rename World => wr
    have hn1 := HNL.out
    obtain ⟨A, cap, hb, hown⟩ := HQR.out
    have MR := hide (MRow.of_own hown rfl)
    have c0 : wr.cell? ⟨p, 0, none⟩ = some (.slice A l.length cap) := hb.cell 0
    rw [HN.out] at c0
    clear hb hown
    by_cases hlt : i < n
    rotate_left
    · have hltI : ¬ (i : Int) < (n : Int) := by omega
      have FN : Hid (firstL l c tag = none) := hide (by
        refine List.find?_eq_none.2 fun m hm => ?_
        have h1 := HNO.out m (by rw [List.take_of_length_le (by have := HN.out; omega)]; exact hm)
        rw [h1]
        decide)
      have z0 : wr.cell? ⟨X, 0, none⟩ = some (.string ⟨#[]⟩) := KXR.out.cell 0
      have z1 : wr.cell? ⟨X, 1, none⟩ = some (.int .i64 0) := KXR.out.cell 1
      have z2 : wr.cell? ⟨X, 2, none⟩ = some (.int .i64 0) := KXR.out.cell 2
      have z3 : wr.cell? ⟨X, 3, none⟩ = some (.int .i64 0) := KXR.out.cell 3
      have z4 : wr.cell? ⟨X, 4, none⟩ = some (.int .i64 0) := KXR.out.cell 4
      have z5 : wr.cell? ⟨X, 5, none⟩ = some (.int .i64 0) := KXR.out.cell 5
      have z6 : wr.cell? ⟨X, 6, none⟩ = some (.int .i64 0) := KXR.out.cell 6
      have z7 : wr.cell? ⟨X, 7, none⟩ = some (.bool false) := KXR.out.cell 7
      have f0 := KXR.out.frozen 0
      have f1 := KXR.out.frozen 1
      have f2 := KXR.out.frozen 2
      have f3 := KXR.out.frozen 3
      have f4 := KXR.out.frozen 4
      have f5 := KXR.out.frozen 5
      have f6 := KXR.out.frozen 6
      have f7 := KXR.out.frozen 7
      have k9 := put8 (KXR.out) (.string ⟨#[]⟩) (.int .i64 0) (.int .i64 0) (.int .i64 0) (.int .i64 0) (.int .i64 0) (.int .i64 0) (.bool false)
      have b9 := bel8 (HBR.out) (.string ⟨#[]⟩) (.int .i64 0) (.int .i64 0) (.int .i64 0) (.int .i64 0) (.int .i64 0) (.int .i64 0) (.bool false)
      obtain ⟨w9, hw9⟩ : ∃ z, ((((((((wr.setCell ⟨X, 0, none⟩ (.string ⟨#[]⟩)).setCell ⟨X, 1, none⟩ (.int .i64 0)).setCell ⟨X, 2, none⟩ (.int .i64 0)).setCell ⟨X, 3, none⟩ (.int .i64 0)).setCell ⟨X, 4, none⟩ (.int .i64 0)).setCell ⟨X, 5, none⟩ (.int .i64 0)).setCell ⟨X, 6, none⟩ (.int .i64 0)).setCell ⟨X, 7, none⟩ (.bool false)) = z := ⟨_, rfl⟩
      rw [hw9] at k9 b9
      have u0 : w9.cell? ⟨X, 0, none⟩ = some (.string ⟨#[]⟩) := k9.cell 0
      have u1 : w9.cell? ⟨X, 1, none⟩ = some (.int .i64 0) := k9.cell 1
      have u2 : w9.cell? ⟨X, 2, none⟩ = some (.int .i64 0) := k9.cell 2
      have u3 : w9.cell? ⟨X, 3, none⟩ = some (.int .i64 0) := k9.cell 3
      have u4 : w9.cell? ⟨X, 4, none⟩ = some (.int .i64 0) := k9.cell 4
      have u5 : w9.cell? ⟨X, 5, none⟩ = some (.int .i64 0) := k9.cell 5
      have u6 : w9.cell? ⟨X, 6, none⟩ = some (.int .i64 0) := k9.cell 6
      have u7 : w9.cell? ⟨X, 7, none⟩ = some (.bool false) := k9.cell 7
      have HB9 := hide b9
      clear k9 b9
      go_wp2_with fail
      exact bodyPost_ret (v := .tuple #[.agg #[.string ⟨#[]⟩, .int .i64 0, .int .i64 0, .int .i64 0, .int .i64 0, .int .i64 0, .int .i64 0, .bool false], .bool false]) (by simp [results, Try.results23, go_sem, u0, u1, u2, u3, u4, u5, u6, u7]) rfl ⟨by rw [FN.out]; rfl, by rw [HX.out]; exact HB9.out⟩
    have hltI : (i : Int) < (n : Int) := by omega
    obtain ⟨⟨mk, mf, mt, mc, mg, mv, mz, mb⟩, hm⟩ : ∃ m, l[i]? = some m := ⟨_, List.getElem?_eq_getElem (by rw [HN.out]; exact hlt)⟩
    obtain ⟨g, rfl, hg, hit⟩ := MR.out.it i _ hm
    have n0 : wr.cell? ⟨g, i * 8, none⟩ = some (.string mk) := hit 0 _ rfl
    have n1 : wr.cell? ⟨g, i * 8 + 1, none⟩ = some (.int .i64 mf) := hit 1 _ rfl
    have n2 : wr.cell? ⟨g, i * 8 + 2, none⟩ = some (.int .i64 mt) := hit 2 _ rfl
    have n3 : wr.cell? ⟨g, i * 8 + 3, none⟩ = some (.int .i64 mc) := hit 3 _ rfl
    have n4 : wr.cell? ⟨g, i * 8 + 4, none⟩ = some (.int .i64 mg) := hit 4 _ rfl
    have n5 : wr.cell? ⟨g, i * 8 + 5, none⟩ = some (.int .i64 mv) := hit 5 _ rfl
    have n6 : wr.cell? ⟨g, i * 8 + 6, none⟩ = some (.int .i64 mz) := hit 6 _ rfl
    have n7 : wr.cell? ⟨g, i * 8 + 7, none⟩ = some (.bool mb) := hit 7 _ rfl
    have HM := hide hm
    have HLT := hide hlt
    have by_ := (Below.refl wr.heap.size wr).alloc (Nat.le_refl _) (.cells #[.string mk, .int .i64 mf, .int .i64 mt, .int .i64 mc, .int .i64 mg, .int .i64 mv, .int .i64 mz, .bool mb] 31)
    have ky := Blk.new wr 31 #[.string mk, .int .i64 mf, .int .i64 mt, .int .i64 mc, .int .i64 mg, .int .i64 mv, .int .i64 mz, .bool mb]
    obtain ⟨ws, hws⟩ : ∃ z, wr.alloc (.cells #[.string mk, .int .i64 mf, .int .i64 mt, .int .i64 mc, .int .i64 mg, .int .i64 mv, .int .i64 mz, .bool mb] 31) = z := ⟨_, rfl⟩
    obtain ⟨Y, hY⟩ : ∃ z, wr.heap.size = z := ⟨_, rfl⟩
    rw [hws] at by_ ky
    rw [hY] at ky
    have KXS := hide (KXR.out.below by_ KXR.out.lt)
    have HBS := hide (HBR.out.trans (by_.mono (Nat.le_of_lt KXR.out.lt)))
    have HRS := hide (HQR.out.below by_)
    have HWS := hide hws
    have HY := hide hY
    have KY := hide ky
    clear hit hm by_ ky hws hY hlt hg
    go_upto_region 5 with (fail)
    rw [HWS.out, HY.out]
    clear HWS HY n0 n1 n2 n3 n4 n5 n6 n7 c0 MR
    have IS := hide (is_b ⟨mk, mf, mt, mc, mg, mv, mz, mb⟩ c ws)
    have y0 : ws.cell? ⟨Y, 0, none⟩ = some (.string mk) := KY.out.cell 0
    have y1 : ws.cell? ⟨Y, 1, none⟩ = some (.int .i64 mf) := KY.out.cell 1
    have y2 : ws.cell? ⟨Y, 2, none⟩ = some (.int .i64 mt) := KY.out.cell 2
    have y3 : ws.cell? ⟨Y, 3, none⟩ = some (.int .i64 mc) := KY.out.cell 3
    have y4 : ws.cell? ⟨Y, 4, none⟩ = some (.int .i64 mg) := KY.out.cell 4
    have y5 : ws.cell? ⟨Y, 5, none⟩ = some (.int .i64 mv) := KY.out.cell 5
    have y6 : ws.cell? ⟨Y, 6, none⟩ = some (.int .i64 mz) := KY.out.cell 6
    have y7 : ws.cell? ⟨Y, 7, none⟩ = some (.bool mb) := KY.out.cell 7
    go_wp2_with fail
    refine IS.out.mono ?_
    rintro e w6 ⟨rfl, hb6⟩
    have KX6 := hide (KXS.out.below hb6 KXS.out.lt)
    have HB6 := hide (HBS.out.trans (hb6.mono (Nat.le_of_lt KXS.out.lt)))
    have HR6 := hide (HRS.out.below hb6)
    have KY6 := hide (KY.out.below hb6 KY.out.lt)
    obtain ⟨bb, hbb⟩ : ∃ z, isM ⟨mk, mf, mt, mc, mg, mv, mz, mb⟩ c = z := ⟨_, rfl⟩
    have HIS := hide hbb
    rw [hbb]
    clear hb6 hbb IS y0 y1 y2 y3 y4 y5 y6 y7
    have y0 : w6.cell? ⟨Y, 0, none⟩ = some (.string mk) := KY6.out.cell 0
    have y1 : w6.cell? ⟨Y, 1, none⟩ = some (.int .i64 mf) := KY6.out.cell 1
    have y2 : w6.cell? ⟨Y, 2, none⟩ = some (.int .i64 mt) := KY6.out.cell 2
    have y3 : w6.cell? ⟨Y, 3, none⟩ = some (.int .i64 mc) := KY6.out.cell 3
    have y4 : w6.cell? ⟨Y, 4, none⟩ = some (.int .i64 mg) := KY6.out.cell 4
    have y5 : w6.cell? ⟨Y, 5, none⟩ = some (.int .i64 mv) := KY6.out.cell 5
    have y6 : w6.cell? ⟨Y, 6, none⟩ = some (.int .i64 mz) := KY6.out.cell 6
    have y7 : w6.cell? ⟨Y, 7, none⟩ = some (.bool mb) := KY6.out.cell 7
    have hdec : (bb = false ∨ (bb = true ∧ ¬ tag = -1 ∧ ¬ tag = mg)) ∨ (bb = true ∧ tag = -1) ∨ (bb = true ∧ ¬ tag = -1 ∧ tag = mg) := by
      cases bb with
      | false => exact .inl (.inl rfl)
      | true =>
        by_cases h1 : tag = -1
        · exact .inr (.inl ⟨rfl, h1⟩)
        · by_cases h2 : tag = mg
          · exact .inr (.inr ⟨rfl, h1, h2⟩)
          · exact .inl (.inr ⟨rfl, h1, h2⟩)
    rcases hdec with (rfl | ⟨rfl, h1, h2⟩) | ⟨rfl, h1⟩ | ⟨rfl, h1, h2⟩
    · have HNO1 := hide (show ∀ m ∈ l.take (i + 1), (isM m c && tagged tag m) = false from fun m hm => by
        obtain ⟨hl1, he1⟩ := List.getElem?_eq_some_iff.1 HM.out
        rw [List.take_succ_eq_append_getElem hl1] at hm
        rcases List.mem_append.1 hm with hm | hm
        · exact HNO.out m hm
        · rw [List.mem_singleton.1 hm, he1, HIS.out]
          simp [tagged])
      go_wp2_with fail
      go_roundw
      case rel => exact ⟨i + 1, HLT.out, by go_num, HNO1, HR6, KX6, HB6⟩
      case measure => have := HLT.out; simp [RowKit.intOf] <;> omega
    · have H1 := hide h1
      have t1 : (tag == -1) = false := by simpa using h1
      have H2 := hide h2
      have t2 : (tag == mg) = false := by simpa using h2
      clear h2
      clear h1
      have HNO1 := hide (show ∀ m ∈ l.take (i + 1), (isM m c && tagged tag m) = false from fun m hm => by
        obtain ⟨hl1, he1⟩ := List.getElem?_eq_some_iff.1 HM.out
        rw [List.take_succ_eq_append_getElem hl1] at hm
        rcases List.mem_append.1 hm with hm | hm
        · exact HNO.out m hm
        · rw [List.mem_singleton.1 hm, he1, HIS.out]
          simp [tagged, H1.out, H2.out])
      go_wp2_with fail
      go_roundw
      case rel => exact ⟨i + 1, HLT.out, by go_num, HNO1, HR6, KX6, HB6⟩
      case measure => have := HLT.out; simp [RowKit.intOf] <;> omega
    · have H1 := hide h1
      have t1 : (tag == -1) = true := by simpa using h1
      clear h1
      have FS : Hid (firstL l c tag = some ⟨mk, mf, mt, mc, mg, mv, mz, mb⟩) := hide (find_at HNO.out HM.out (by rw [HIS.out]; simp [tagged, H1.out]))
      have z0 : w6.cell? ⟨X, 0, none⟩ = some (.string ⟨#[]⟩) := KX6.out.cell 0
      have z1 : w6.cell? ⟨X, 1, none⟩ = some (.int .i64 0) := KX6.out.cell 1
      have z2 : w6.cell? ⟨X, 2, none⟩ = some (.int .i64 0) := KX6.out.cell 2
      have z3 : w6.cell? ⟨X, 3, none⟩ = some (.int .i64 0) := KX6.out.cell 3
      have z4 : w6.cell? ⟨X, 4, none⟩ = some (.int .i64 0) := KX6.out.cell 4
      have z5 : w6.cell? ⟨X, 5, none⟩ = some (.int .i64 0) := KX6.out.cell 5
      have z6 : w6.cell? ⟨X, 6, none⟩ = some (.int .i64 0) := KX6.out.cell 6
      have z7 : w6.cell? ⟨X, 7, none⟩ = some (.bool false) := KX6.out.cell 7
      have f0 := KX6.out.frozen 0
      have f1 := KX6.out.frozen 1
      have f2 := KX6.out.frozen 2
      have f3 := KX6.out.frozen 3
      have f4 := KX6.out.frozen 4
      have f5 := KX6.out.frozen 5
      have f6 := KX6.out.frozen 6
      have f7 := KX6.out.frozen 7
      have k9 := put8 (KX6.out) (.string mk) (.int .i64 mf) (.int .i64 mt) (.int .i64 mc) (.int .i64 mg) (.int .i64 mv) (.int .i64 mz) (.bool mb)
      have b9 := bel8 (HB6.out) (.string mk) (.int .i64 mf) (.int .i64 mt) (.int .i64 mc) (.int .i64 mg) (.int .i64 mv) (.int .i64 mz) (.bool mb)
      obtain ⟨w9, hw9⟩ : ∃ z, ((((((((w6.setCell ⟨X, 0, none⟩ (.string mk)).setCell ⟨X, 1, none⟩ (.int .i64 mf)).setCell ⟨X, 2, none⟩ (.int .i64 mt)).setCell ⟨X, 3, none⟩ (.int .i64 mc)).setCell ⟨X, 4, none⟩ (.int .i64 mg)).setCell ⟨X, 5, none⟩ (.int .i64 mv)).setCell ⟨X, 6, none⟩ (.int .i64 mz)).setCell ⟨X, 7, none⟩ (.bool mb)) = z := ⟨_, rfl⟩
      rw [hw9] at k9 b9
      have u0 : w9.cell? ⟨X, 0, none⟩ = some (.string mk) := k9.cell 0
      have u1 : w9.cell? ⟨X, 1, none⟩ = some (.int .i64 mf) := k9.cell 1
      have u2 : w9.cell? ⟨X, 2, none⟩ = some (.int .i64 mt) := k9.cell 2
      have u3 : w9.cell? ⟨X, 3, none⟩ = some (.int .i64 mc) := k9.cell 3
      have u4 : w9.cell? ⟨X, 4, none⟩ = some (.int .i64 mg) := k9.cell 4
      have u5 : w9.cell? ⟨X, 5, none⟩ = some (.int .i64 mv) := k9.cell 5
      have u6 : w9.cell? ⟨X, 6, none⟩ = some (.int .i64 mz) := k9.cell 6
      have u7 : w9.cell? ⟨X, 7, none⟩ = some (.bool mb) := k9.cell 7
      have HB9 := hide b9
      clear k9 b9
      go_wp2_with fail
      exact bodyPost_ret (v := .tuple #[.agg #[.string mk, .int .i64 mf, .int .i64 mt, .int .i64 mc, .int .i64 mg, .int .i64 mv, .int .i64 mz, .bool mb], .bool true]) (by simp [results, Try.results23, go_sem, u0, u1, u2, u3, u4, u5, u6, u7]) rfl ⟨by rw [FS.out]; rfl, by rw [HX.out]; exact HB9.out⟩
    · have H1 := hide h1
      have t1 : (tag == -1) = false := by simpa using h1
      have H2 := hide h2
      have t2 : (tag == mg) = true := by simpa using h2
      clear h2
      clear h1
      have FS : Hid (firstL l c tag = some ⟨mk, mf, mt, mc, mg, mv, mz, mb⟩) := hide (find_at HNO.out HM.out (by rw [HIS.out]; simp [tagged, H1.out, H2.out]))
      have z0 : w6.cell? ⟨X, 0, none⟩ = some (.string ⟨#[]⟩) := KX6.out.cell 0
      have z1 : w6.cell? ⟨X, 1, none⟩ = some (.int .i64 0) := KX6.out.cell 1
      have z2 : w6.cell? ⟨X, 2, none⟩ = some (.int .i64 0) := KX6.out.cell 2
      have z3 : w6.cell? ⟨X, 3, none⟩ = some (.int .i64 0) := KX6.out.cell 3
      have z4 : w6.cell? ⟨X, 4, none⟩ = some (.int .i64 0) := KX6.out.cell 4
      have z5 : w6.cell? ⟨X, 5, none⟩ = some (.int .i64 0) := KX6.out.cell 5
      have z6 : w6.cell? ⟨X, 6, none⟩ = some (.int .i64 0) := KX6.out.cell 6
      have z7 : w6.cell? ⟨X, 7, none⟩ = some (.bool false) := KX6.out.cell 7
      have f0 := KX6.out.frozen 0
      have f1 := KX6.out.frozen 1
      have f2 := KX6.out.frozen 2
      have f3 := KX6.out.frozen 3
      have f4 := KX6.out.frozen 4
      have f5 := KX6.out.frozen 5
      have f6 := KX6.out.frozen 6
      have f7 := KX6.out.frozen 7
      have k9 := put8 (KX6.out) (.string mk) (.int .i64 mf) (.int .i64 mt) (.int .i64 mc) (.int .i64 mg) (.int .i64 mv) (.int .i64 mz) (.bool mb)
      have b9 := bel8 (HB6.out) (.string mk) (.int .i64 mf) (.int .i64 mt) (.int .i64 mc) (.int .i64 mg) (.int .i64 mv) (.int .i64 mz) (.bool mb)
      obtain ⟨w9, hw9⟩ : ∃ z, ((((((((w6.setCell ⟨X, 0, none⟩ (.string mk)).setCell ⟨X, 1, none⟩ (.int .i64 mf)).setCell ⟨X, 2, none⟩ (.int .i64 mt)).setCell ⟨X, 3, none⟩ (.int .i64 mc)).setCell ⟨X, 4, none⟩ (.int .i64 mg)).setCell ⟨X, 5, none⟩ (.int .i64 mv)).setCell ⟨X, 6, none⟩ (.int .i64 mz)).setCell ⟨X, 7, none⟩ (.bool mb)) = z := ⟨_, rfl⟩
      rw [hw9] at k9 b9
      have u0 : w9.cell? ⟨X, 0, none⟩ = some (.string mk) := k9.cell 0
      have u1 : w9.cell? ⟨X, 1, none⟩ = some (.int .i64 mf) := k9.cell 1
      have u2 : w9.cell? ⟨X, 2, none⟩ = some (.int .i64 mt) := k9.cell 2
      have u3 : w9.cell? ⟨X, 3, none⟩ = some (.int .i64 mc) := k9.cell 3
      have u4 : w9.cell? ⟨X, 4, none⟩ = some (.int .i64 mg) := k9.cell 4
      have u5 : w9.cell? ⟨X, 5, none⟩ = some (.int .i64 mv) := k9.cell 5
      have u6 : w9.cell? ⟨X, 6, none⟩ = some (.int .i64 mz) := k9.cell 6
      have u7 : w9.cell? ⟨X, 7, none⟩ = some (.bool mb) := k9.cell 7
      have HB9 := hide b9
      clear k9 b9
      go_wp2_with fail
      exact bodyPost_ret (v := .tuple #[.agg #[.string mk, .int .i64 mf, .int .i64 mt, .int .i64 mc, .int .i64 mg, .int .i64 mv, .int .i64 mz, .bool mb], .bool true]) (by simp [results, Try.results23, go_sem, u0, u1, u2, u3, u4, u5, u6, u7]) rfl ⟨by rw [FS.out]; rfl, by rw [HX.out]; exact HB9.out⟩
end Qu
end Go.Proofs.Ytomladbdebfikaa
