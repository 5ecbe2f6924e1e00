/- The message of a call. -/
import Derived.Test.YtomladbdebfikaaRows
import Derived.Test.YtomladbdebfikaaQuD
namespace Go.Proofs.Ytomladbdebfikaa
open Go Go.RowKit Go.Lib
set_option linter.unusedVariables false
set_option linter.unusedSimpArgs false
namespace Qu
theorem QSt.drew {w : World} {q : Nat} {L : QL} {l : List Msg} (h : QSt w q L l) : QSt w.drew q L l := h.below (Below.refl _ _).drew
set_option maxRecDepth 100000 in
theorem run_field0 (a : Option Addr) (n c : Nat) (f : Int) (w : World) : (Instr.field 71 (.agg #[.slice a n c, .int .i64 f]) 0).run Try.prog w = .ok (.slice a n c) w := by
  have u1 := Try.underlying27
  have a1 := Try.isAgg27
  have z1 := Try.sizeOf27
  simp [Instr.field, run_underlying Try.underlying71, part, asAgg, Result.andThen, a1]
  try go_simp
/-- What is told of a call. -/
theorem plc_row {w : World} {q : Nat} {L : QL} {l : List Msg} (h : QSt w q L l) {v : Who} {i : Nat} (hp : plc l v = some i) :
    ∃ (m : Msg) (x : CRow), l[i]? = some m ∧ m.who = v ∧ (m.ch, x) ∈ L.cl ∧ plcR l v = some ⟨m.ch, (rowsOf (l.take i) m.ch).length⟩ ∧ (rowsOf l m.ch)[(rowsOf (l.take i) m.ch).length]? = some m ∧ findL l v = some m ∧
      SMap.look (L.cl.map fun p => (p.1, rowV (rowsOf l p.1) p.2)) m.ch = some (rowV (rowsOf l m.ch) x) ∧ (rowsOf l m.ch).length ≤ x.cap := by
  obtain ⟨m, hm, hw⟩ := plc_some hp
  have hg : l.getD i m0 = m := by rw [List.getD_eq_getElem?_getD, hm]; rfl
  have hr : rowsOf l m.ch ≠ [] := rowsOf_ne.2 ⟨m, List.mem_of_getElem? hm, rfl⟩
  obtain ⟨x, hx, he⟩ := h.row hr
  have h0 : 0 < (rowsOf l m.ch).length := List.length_pos_iff.2 hr
  obtain ⟨_, _, _, _, _, _, hc, _⟩ := own_cell (h.crow _ hx) h0
  exact ⟨m, x, hm, hw, hx, by unfold plcR; rw [hp, Option.map_some, hg], (row_at hm).1, by unfold findL; rw [hp, Option.map_some, hg], he, hc⟩
set_option maxRecDepth 100000 in
set_option maxHeartbeats 16000000 in
theorem Find_c {w : World} {q : Nat} {L : QL} {l : List Msg} (h : QSt w q L l) (v : Who) (hl : l.length ≤ 1000) :
    Calls Try.prog 20 #[.pointer (some ⟨q, 0, none⟩), .int .i64 v.fr, .int .i64 v.ca] w fun e w' => e = .returned (tellV (findL l v)) ∧ Below w.heap.size w w' := by
  have b1 := (Below.refl w.heap.size w).alloc (Nat.le_refl _) (.cells #[.string ⟨#[]⟩, .int .i64 0, .int .i64 0, .int .i64 0, .int .i64 0, .int .i64 0, .int .i64 0, .bool false] 31)
  have kx := Blk.new w 31 #[.string ⟨#[]⟩, .int .i64 0, .int .i64 0, .int .i64 0, .int .i64 0, .int .i64 0, .int .i64 0, .bool false]
  have q1 := h.below b1
  go_enter Try.func20, Try.ntmps20
  go_upto_region 1 with (fail)
  obtain ⟨w1, hw1⟩ : ∃ z, w.alloc (.cells #[.string ⟨#[]⟩, .int .i64 0, .int .i64 0, .int .i64 0, .int .i64 0, .int .i64 0, .int .i64 0, .bool false] 31) = z := ⟨_, rfl⟩
  rw [hw1] at b1 kx q1 ⊢
  obtain ⟨X, hX⟩ : ∃ X, w.heap.size = X := ⟨_, rfl⟩
  rw [hX] at b1 kx ⊢
  have HQ1 := hide q1
  have KX := hide kx
  have HB1 := hide b1
  have HX := hide hX
  have MC := hide (made_c q1)
  have c1 : w1.cell? ⟨q, 1, none⟩ = some (.map (some L.pm)) := q1.blk.cell 1
  have lk := SMap.run_lookupOk keyWho Try.underlying58 zero_place v L.pm _ w1 q1.mp
  rw [q1.pin] at lk
  unfold whV at lk
  clear b1 kx q1 hw1 hX h
  go_wp2_with fail
  refine MC.out.mono ?_
  rintro e w1b ⟨rfl, hw1b⟩
  obtain rfl : w1 = w1b := hw1b
  cases hp : plc l v with
  | none =>
    have FN : Hid (findL l v = none) := hide (by unfold findL; rw [hp]; rfl)
    have hpr : plcR l v = none := by unfold plcR; rw [hp]; rfl
    rw [hpr] at lk
    simp only [Option.map_none, Option.getD_none, Option.isSome_none] at lk
    have bz := (Below.refl w1.heap.size w1).alloc (Nat.le_refl _) (.cells #[.string ⟨#[]⟩, .int .i64 0, .int .i64 0, .int .i64 0] 65)
    obtain ⟨w2, hw2⟩ : ∃ z, w1.alloc (.cells #[.string ⟨#[]⟩, .int .i64 0, .int .i64 0, .int .i64 0] 65) = z := ⟨_, rfl⟩
    rw [hw2] at bz
    have KX2 := hide (KX.out.below bz KX.out.lt)
    have HB2 := hide (HB1.out.trans (bz.mono (Nat.le_of_lt KX.out.lt)))
    have HW2 := hide hw2
    clear bz hw2 MC hp hpr
    go_upto_region 4 with (fail)
    rw [HW2.out]
    clear lk c1 HW2
    have z0 : w2.cell? ⟨X, 0, none⟩ = some (.string ⟨#[]⟩) := KX2.out.cell 0
    have z1 : w2.cell? ⟨X, 1, none⟩ = some (.int .i64 0) := KX2.out.cell 1
    have z2 : w2.cell? ⟨X, 2, none⟩ = some (.int .i64 0) := KX2.out.cell 2
    have z3 : w2.cell? ⟨X, 3, none⟩ = some (.int .i64 0) := KX2.out.cell 3
    have z4 : w2.cell? ⟨X, 4, none⟩ = some (.int .i64 0) := KX2.out.cell 4
    have z5 : w2.cell? ⟨X, 5, none⟩ = some (.int .i64 0) := KX2.out.cell 5
    have z6 : w2.cell? ⟨X, 6, none⟩ = some (.int .i64 0) := KX2.out.cell 6
    have z7 : w2.cell? ⟨X, 7, none⟩ = some (.bool false) := KX2.out.cell 7
    have f0 := KX2.out.frozen 0
    have f1 := KX2.out.frozen 1
    have f2 := KX2.out.frozen 2
    have f3 := KX2.out.frozen 3
    have f4 := KX2.out.frozen 4
    have f5 := KX2.out.frozen 5
    have f6 := KX2.out.frozen 6
    have f7 := KX2.out.frozen 7
    have k9 := put8 (KX2.out) (.string ⟨#[]⟩) (.int .i64 0) (.int .i64 0) (.int .i64 0) (.int .i64 0) (.int .i64 0) (.int .i64 0) (.bool false)
    have b9 := bel8 (HB2.out) (.string ⟨#[]⟩) (.int .i64 0) (.int .i64 0) (.int .i64 0) (.int .i64 0) (.int .i64 0) (.int .i64 0) (.bool false)
    obtain ⟨w9, hw9⟩ : ∃ z, ((((((((w2.setCell ⟨X, 0, none⟩ (.string ⟨#[]⟩)).setCell ⟨X, 1, none⟩ (.int .i64 0)).setCell ⟨X, 2, none⟩ (.int .i64 0)).setCell ⟨X, 3, none⟩ (.int .i64 0)).setCell ⟨X, 4, none⟩ (.int .i64 0)).setCell ⟨X, 5, none⟩ (.int .i64 0)).setCell ⟨X, 6, none⟩ (.int .i64 0)).setCell ⟨X, 7, none⟩ (.bool false)) = z := ⟨_, rfl⟩
    rw [hw9] at k9 b9
    have u0 : w9.cell? ⟨X, 0, none⟩ = some (.string ⟨#[]⟩) := k9.cell 0
    have u1 : w9.cell? ⟨X, 1, none⟩ = some (.int .i64 0) := k9.cell 1
    have u2 : w9.cell? ⟨X, 2, none⟩ = some (.int .i64 0) := k9.cell 2
    have u3 : w9.cell? ⟨X, 3, none⟩ = some (.int .i64 0) := k9.cell 3
    have u4 : w9.cell? ⟨X, 4, none⟩ = some (.int .i64 0) := k9.cell 4
    have u5 : w9.cell? ⟨X, 5, none⟩ = some (.int .i64 0) := k9.cell 5
    have u6 : w9.cell? ⟨X, 6, none⟩ = some (.int .i64 0) := k9.cell 6
    have u7 : w9.cell? ⟨X, 7, none⟩ = some (.bool false) := k9.cell 7
    have HB9 := hide b9
    clear k9 b9
    go_wp2_with fail
    exact bodyPost_ret (v := .tuple #[.agg #[.string ⟨#[]⟩, .int .i64 0, .int .i64 0, .int .i64 0, .int .i64 0, .int .i64 0, .int .i64 0, .bool false], .bool false]) (by simp [results, Try.results20, go_sem, u0, u1, u2, u3, u4, u5, u6, u7]) rfl ⟨by rw [FN.out]; rfl, by rw [HX.out]; exact HB9.out⟩
  | some i =>
    obtain ⟨⟨mk, mf, mt, mc, mg, mv, mz, mb⟩, x, hm, hw, hx, hpr, hat, hfi, he, hcap⟩ := plc_row HQ1.out hp
    rw [hpr] at lk
    have FS := hide hfi
    generalize hC : (⟨mk, mf, mt, mc, mg, mv, mz, mb⟩ : Msg).ch = C at hpr hat he hcap hx lk
    generalize hA : (rowsOf (l.take i) C).length = a at hpr hat lk
    obtain ⟨ck, cf, ct⟩ := C
    simp only [Option.map_some, Option.getD_some, Option.isSome_some, plV] at lk
    have hal : a < (rowsOf l ⟨ck, cf, ct⟩).length := (List.getElem?_eq_some_iff.1 hat).1
    have han : a ≤ 1000 := by have := rowsOf_len l ⟨ck, cf, ct⟩; omega
    have bz := (Below.refl w1.heap.size w1).alloc (Nat.le_refl _) (.cells #[.string ck, .int .i64 cf, .int .i64 ct, .int .i64 a] 65)
    have ky := Blk.new w1 65 #[.string ck, .int .i64 cf, .int .i64 ct, .int .i64 a]
    obtain ⟨w2, hw2⟩ : ∃ z, w1.alloc (.cells #[.string ck, .int .i64 cf, .int .i64 ct, .int .i64 a] 65) = z := ⟨_, rfl⟩
    obtain ⟨Y, hY⟩ : ∃ z, w1.heap.size = z := ⟨_, rfl⟩
    rw [hw2] at bz ky
    rw [hY] at ky
    have KX2 := hide (KX.out.below bz KX.out.lt)
    have HB2 := hide (HB1.out.trans (bz.mono (Nat.le_of_lt KX.out.lt)))
    have HQ2 := hide (HQ1.out.below bz)
    have HW2 := hide hw2
    have HY := hide hY
    have KY := hide ky
    have HE := hide he
    have HAT := hide hat
    have HXM := hide hx
    have HAL := hide hal
    have HAN := hide han
    clear bz ky hw2 hY MC hp hpr he hat hx hm hw hfi hcap hC hA hal han
    go_upto_region 6 with (fail)
    rw [HW2.out, HY.out]
    clear lk c1 HW2 HY
    have c0 : w2.cell? ⟨q, 0, none⟩ = some (.map (some L.cm)) := HQ2.out.blk.cell 0
    have lk := SMap.run_lookup keyChan Try.underlying57 zero_row ⟨ck, cf, ct⟩ L.cm _ w2.drew HQ2.out.drew.mc
    rw [HE.out] at lk
    simp only [Option.getD_some, rowV, chV] at lk
    have hfl := run_field0 (some ⟨x.g, 0, none⟩) (rowsOf l ⟨ck, cf, ct⟩).length x.cap (x.fi : Int) w2.drew
    have alI : (a : Int) < ((rowsOf l ⟨ck, cf, ct⟩).length : Int) := by have := HAL.out; omega
    have al0 : (0 : Int) ≤ (a : Int) := by omega
    have hit := fun k v hv => HQ2.out.item HXM.out HAT.out k v hv
    have n0 : w2.cell? ⟨x.g, a * 8, none⟩ = some (.string mk) := hit 0 _ rfl
    have n1 : w2.cell? ⟨x.g, a * 8 + 1, none⟩ = some (.int .i64 mf) := hit 1 _ rfl
    have n2 : w2.cell? ⟨x.g, a * 8 + 2, none⟩ = some (.int .i64 mt) := hit 2 _ rfl
    have n3 : w2.cell? ⟨x.g, a * 8 + 3, none⟩ = some (.int .i64 mc) := hit 3 _ rfl
    have n4 : w2.cell? ⟨x.g, a * 8 + 4, none⟩ = some (.int .i64 mg) := hit 4 _ rfl
    have n5 : w2.cell? ⟨x.g, a * 8 + 5, none⟩ = some (.int .i64 mv) := hit 5 _ rfl
    have n6 : w2.cell? ⟨x.g, a * 8 + 6, none⟩ = some (.int .i64 mz) := hit 6 _ rfl
    have n7 : w2.cell? ⟨x.g, a * 8 + 7, none⟩ = some (.bool mb) := hit 7 _ rfl
    have y0 : w2.cell? ⟨Y, 0, none⟩ = some (.string ck) := KY.out.cell 0
    have y1 : w2.cell? ⟨Y, 1, none⟩ = some (.int .i64 cf) := KY.out.cell 1
    have y2 : w2.cell? ⟨Y, 2, none⟩ = some (.int .i64 ct) := KY.out.cell 2
    have y3 : w2.cell? ⟨Y, 3, none⟩ = some (.int .i64 a) := KY.out.cell 3
    clear hit
    have z0 : w2.cell? ⟨X, 0, none⟩ = some (.string ⟨#[]⟩) := KX2.out.cell 0
    have f0 := KX2.out.frozen 0
    have z1 : w2.cell? ⟨X, 1, none⟩ = some (.int .i64 0) := KX2.out.cell 1
    have f1 := KX2.out.frozen 1
    have z2 : w2.cell? ⟨X, 2, none⟩ = some (.int .i64 0) := KX2.out.cell 2
    have f2 := KX2.out.frozen 2
    have z3 : w2.cell? ⟨X, 3, none⟩ = some (.int .i64 0) := KX2.out.cell 3
    have f3 := KX2.out.frozen 3
    have z4 : w2.cell? ⟨X, 4, none⟩ = some (.int .i64 0) := KX2.out.cell 4
    have f4 := KX2.out.frozen 4
    have z5 : w2.cell? ⟨X, 5, none⟩ = some (.int .i64 0) := KX2.out.cell 5
    have f5 := KX2.out.frozen 5
    have z6 : w2.cell? ⟨X, 6, none⟩ = some (.int .i64 0) := KX2.out.cell 6
    have f6 := KX2.out.frozen 6
    have z7 : w2.cell? ⟨X, 7, none⟩ = some (.bool false) := KX2.out.cell 7
    have f7 := KX2.out.frozen 7
    have k9 := put8 (KX2.out) (.string mk) (.int .i64 mf) (.int .i64 mt) (.int .i64 mc) (.int .i64 mg) (.int .i64 mv) (.int .i64 mz) (.bool mb)
    have b9 := bel8 (HB2.out) (.string mk) (.int .i64 mf) (.int .i64 mt) (.int .i64 mc) (.int .i64 mg) (.int .i64 mv) (.int .i64 mz) (.bool mb)
    have HK9 := hide k9
    have HB9 := hide b9
    clear k9 b9
    go_region
    obtain ⟨w9, hw9⟩ : ∃ z, ((((((((w2.setCell ⟨X, 0, none⟩ (.string mk)).setCell ⟨X, 1, none⟩ (.int .i64 mf)).setCell ⟨X, 2, none⟩ (.int .i64 mt)).setCell ⟨X, 3, none⟩ (.int .i64 mc)).setCell ⟨X, 4, none⟩ (.int .i64 mg)).setCell ⟨X, 5, none⟩ (.int .i64 mv)).setCell ⟨X, 6, none⟩ (.int .i64 mz)).setCell ⟨X, 7, none⟩ (.bool mb)).drew = z := ⟨_, rfl⟩
    have k9 := HK9.out.below (Below.refl _ _).drew HK9.out.lt
    have b9 := HB9.out.drew
    rw [hw9] at k9 b9 ⊢
    have u0 : w9.cell? ⟨X, 0, none⟩ = some (.string mk) := k9.cell 0
    have u1 : w9.cell? ⟨X, 1, none⟩ = some (.int .i64 mf) := k9.cell 1
    have u2 : w9.cell? ⟨X, 2, none⟩ = some (.int .i64 mt) := k9.cell 2
    have u3 : w9.cell? ⟨X, 3, none⟩ = some (.int .i64 mc) := k9.cell 3
    have u4 : w9.cell? ⟨X, 4, none⟩ = some (.int .i64 mg) := k9.cell 4
    have u5 : w9.cell? ⟨X, 5, none⟩ = some (.int .i64 mv) := k9.cell 5
    have u6 : w9.cell? ⟨X, 6, none⟩ = some (.int .i64 mz) := k9.cell 6
    have u7 : w9.cell? ⟨X, 7, none⟩ = some (.bool mb) := k9.cell 7
    have HBZ := hide b9
    clear k9 b9 hw9 HK9 HB9 n0 z0 f0 n1 z1 f1 n2 z2 f2 n3 z3 f3 n4 z4 f4 n5 z5 f5 n6 z6 f6 n7 z7 f7 y0 y1 y2 y3 c0 lk hfl
    go_wp2_with fail
    exact bodyPost_ret (v := .tuple #[.agg #[.string mk, .int .i64 mf, .int .i64 mt, .int .i64 mc, .int .i64 mg, .int .i64 mv, .int .i64 mz, .bool mb], .bool true]) (by simp [results, Try.results20, go_sem, u0, u1, u2, u3, u4, u5, u6, u7]) rfl ⟨by rw [FS.out]; rfl, by rw [HX.out]; exact HBZ.out⟩
end Qu
end Go.Proofs.Ytomladbdebfikaa
