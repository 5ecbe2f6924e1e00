/- The chapter's example: awake. -/
import Derived.Test.YtgiibknfkphkgaaDoorRows
import Derived.Test.YtgiibknfkphkgaaDoorSpF
import Derived.Test.YtgiibknfkphkgaaDoorSpJ
import Derived.Test.YtgiibknfkphkgaaDoorSpK
import Derived.Test.YtgiibknfkphkgaaDoorSpL
namespace Go.Proofs.YtgiibknfkphkgaaDoor
open Go Go.RowKit Go.Lib Go.Proofs.YtgiibknfkphkgaaDoor.Grp
set_option linter.unusedVariables false
set_option linter.unusedSimpArgs false
namespace Sp
theorem own_nrow {w : World} {B c : Nat} {A : Option Addr} {l : List Int} (h : w.ownsRow B 3 1 (.slice A l.length c) l.length (ints l)) : NRow w A l := fun h0 => by
  obtain ⟨g, rfl, _, _, ⟨cs, hb⟩, _, _, hc⟩ := own_cell h h0
  refine ⟨_, rfl, hb.lt, fun i hi => ?_⟩
  rw [add_lit]
  exact hc i _ (Grp.ints_at hi)
theorem blk_nrow {w : World} {g : Nat} {l : List Int} (h : Blk w g 3 (ints l).toArray) : NRow w (some ⟨g, 0, none⟩) l := fun h0 => by
  refine ⟨_, rfl, h.lt, fun i hi => ?_⟩
  rw [add_lit, h.cell]
  show (ints l).toArray[i]? = _
  rw [List.getElem?_toArray]
  exact Grp.ints_at hi
theorem key00 : keyK ⟨#[]⟩ 0 0 = ⟨#[46, 48, 58, 48]⟩ := by
  unfold keyK behindS
  rw [show itoa 0 = [48] from (itoa_nonneg 0).trans (decDigits_one (by omega))]
  decide
theorem key01 : keyK ⟨#[]⟩ 0 1 = ⟨#[46, 48, 58, 49]⟩ := by
  unfold keyK behindS
  rw [show itoa 0 = [48] from (itoa_nonneg 0).trans (decDigits_one (by omega)), show itoa 1 = [49] from (itoa_nonneg 1).trans (decDigits_one (by omega))]
  decide
theorem key12 : behindS ⟨#[]⟩ 12 = ⟨#[46, 49, 50]⟩ := by
  unfold behindS
  rw [show itoa 12 = [49, 50] from (itoa_nonneg 12).trans (decDigits_two (by omega) (by omega))]
  decide
theorem may4 : mayL (upto 4) := by decide
set_option maxRecDepth 100000 in
set_option maxHeartbeats 8000000 in
theorem awake_c (W : World) (hp : Pow W) : Calls Tryd.prog 16 #[] W fun e w' => e = .returned (.bool true) ∧ Below W.heap.size W w' := by
  have WC : Hid (Calls Tryd.prog 34 #[.int .i64 4] W fun e w' => ∃ g, e = .returned (.tuple #[.agg #[.string ⟨#[]⟩, .slice (some ⟨g, 0, none⟩) 4 4], .int .i64 0]) ∧ W.heap.size ≤ g ∧ Blk w' g 3 (ints (upto 4)).toArray ∧ Below W.heap.size W w') := hide (World_yes 4 W (by omega) (by omega))
  have HP := hide hp
  clear hp
  go_enter Tryd.func16, Tryd.ntmps16
  go_wp2_with fail
  refine WC.out.mono ?_
  rintro e W1 ⟨g1, rfl, hg1, hgb, hb1⟩
  obtain ⟨hbk, hbx⟩ := box2 W1 24 (.string ⟨#[]⟩) (.slice none 0 0) (.string ⟨#[]⟩) (.slice (some ⟨g1, 0, none⟩) 4 4)
  have bz := Blk.new W1 24 #[.string ⟨#[]⟩, .slice none 0 0]
  obtain ⟨Wa, hWa⟩ : ∃ x, W1.alloc (.cells #[.string ⟨#[]⟩, .slice none 0 0] 24) = x := ⟨_, rfl⟩
  rw [hWa] at hbk hbx bz
  have z0 : Wa.cell? ⟨W1.heap.size, 0, none⟩ = some (.string ⟨#[]⟩) := bz.cell 0
  have z1 : Wa.cell? ⟨W1.heap.size, 1, none⟩ = some (.slice none 0 0) := bz.cell 1
  have f0 := bz.frozen 0
  have f1 := bz.frozen 1
  obtain ⟨W2, hW2⟩ : ∃ x, (Wa.setCell ⟨W1.heap.size, 0, none⟩ (.string ⟨#[]⟩)).setCell ⟨W1.heap.size, 1, none⟩ (.slice (some ⟨g1, 0, none⟩) 4 4) = x := ⟨_, rfl⟩
  rw [hW2] at hbk hbx
  have HG2 := hide (hgb.below hbx hgb.lt)
  have HB2 := hide (hb1.trans (hbx.mono hb1.size))
  have BX2 := hide hbk
  have a0 : W2.cell? ⟨W1.heap.size, 0, none⟩ = some (.string ⟨#[]⟩) := hbk.cell 0
  have a1 : W2.cell? ⟨W1.heap.size, 1, none⟩ = some (.slice (some ⟨g1, 0, none⟩) 4 4) := hbk.cell 1
  -- what is asked
  have kb := Blk.new W2 40 #[.int .i64 1, .int .i64 5, .int .i64 0, .int .i64 0, .int .i64 1, .int .i64 2, .int .i64 (-1), .int .i64 0]
  have hb3 := (Below.refl W2.heap.size W2).alloc (Nat.le_refl _) (.cells #[.int .i64 1, .int .i64 5, .int .i64 0, .int .i64 0, .int .i64 1, .int .i64 2, .int .i64 (-1), .int .i64 0] 40)
  obtain ⟨W3, hW3⟩ : ∃ x, W2.alloc (.cells #[.int .i64 1, .int .i64 5, .int .i64 0, .int .i64 0, .int .i64 1, .int .i64 2, .int .i64 (-1), .int .i64 0] 40) = x := ⟨_, rfl⟩
  rw [hW3] at kb hb3
  have HB3 := hide (HB2.out.trans (hb3.mono HB2.out.size))
  have HG3 := hide (HG2.out.below hb3 HG2.out.lt)
  have BX3 := hide (BX2.out.below hb3 BX2.out.lt)
  have hask : AskR W3 (some ⟨W2.heap.size, 0, none⟩) [(1, 5), (0, 0), (1, 2), (-1, 0)] := ⟨rfl, fun _ => ⟨_, rfl, kb.lt, fun j u hu => by rw [add_lit, kb.cell]; have hu : ([Value.int .i64 1, .int .i64 5, .int .i64 0, .int .i64 0, .int .i64 1, .int .i64 2, .int .i64 (-1), .int .i64 0] : List Value)[j]? = some u := hu; simpa using hu⟩⟩
  have SC : Hid (Calls Tryd.prog 13 #[.agg #[.string ⟨#[]⟩, .slice (some ⟨g1, 0, none⟩) 4 4], .int .i64 0, .slice (some ⟨W2.heap.size, 0, none⟩) 4 4] W3 (splitPost ⟨#[]⟩ (upto 4) 0 [(1, 5), (0, 0), (1, 2), (-1, 0)] W3)) := hide (Split_c ⟨#[]⟩ (some ⟨g1, 0, none⟩) 4 (upto 4) 0 (some ⟨W2.heap.size, 0, none⟩) 4 [(1, 5), (0, 0), (1, 2), (-1, 0)] W3 (blk_nrow HG3.out) hask (by decide) (by decide) (HP.out.below HB3.out (Nat.le_refl _)) (by decide) (by omega) (by intro x hx; simp only [List.mem_cons, List.not_mem_nil, or_false] at hx; rcases hx with rfl | rfl | rfl | rfl <;> simp))
  clear hbk hbx bz hgb hb1 kb hb3 hask HG2 WC
  go_wp2_with fail
  refine SC.out.mono ?_
  rintro e W4 ⟨h4, hb4⟩
  obtain ⟨_, L', O, oc, gs, B0, rfl, hperm, hsrt, hgs, hout, hB0⟩ := h4.resolve_left (fun h => by
    rcases h.1 with h | h | h
    · exact h may4
    · omega
    · exact h rfl)
  have hL' := ex_srt hperm hsrt
  subst hL'
  have hgl : gs.length = 2 := by
    have : (gs.map Gw.p).length = 2 := by rw [hgs]; rfl
    simpa using this
  obtain ⟨x0, x1, rfl⟩ : ∃ x0 x1, gs = [x0, x1] := by
    match gs, hgl with
    | [x0, x1], _ => exact ⟨x0, x1, rfl⟩
  have hgs2 : [x0.p, x1.p] = [((0 : Int), [(1 : Int)]), (1, [2, 0])] := hgs
  simp only [List.cons.injEq, and_true] at hgs2
  obtain ⟨c0, A0, k0, r0⟩ := x0
  obtain ⟨c1, A1, k1, r1⟩ := x1
  have hp0 : (c0, r0) = ((0 : Int), [(1 : Int)]) := hgs2.1
  have hp1 : (c1, r1) = ((1 : Int), [(2 : Int), 0]) := hgs2.2
  obtain ⟨rfl, rfl⟩ := Prod.mk.injEq .. ▸ hp0
  obtain ⟨rfl, rfl⟩ := Prod.mk.injEq .. ▸ hp1
  obtain ⟨o, hO, _, _, ⟨cso, hOb⟩, _, _, hOc⟩ := own_cell hout.row (by show 0 < 2; omega)
  subst hO
  have oc0 : W4.cell? ⟨o, 0, none⟩ = some (.string ⟨#[46, 48, 58, 48]⟩) := by rw [← key00]; exact hOc 0 _ rfl
  have oc1 : W4.cell? ⟨o, 1, none⟩ = some (.slice A0 1 k0) := hOc 1 _ rfl
  have oc2 : W4.cell? ⟨o, 2, none⟩ = some (.string ⟨#[46, 48, 58, 49]⟩) := by rw [← key01]; exact hOc 2 _ rfl
  have oc3 : W4.cell? ⟨o, 3, none⟩ = some (.slice A1 2 k1) := hOc 3 _ rfl
  have N0 : NRow W4 A0 [1] := own_nrow (hout.rs 0 (by show 0 < 2; omega))
  have N1 : NRow W4 A1 [2, 0] := own_nrow (hout.rs 1 (by show 1 < 2; omega))
  have HOC := hide (fun (w' : World) (hb : Below W4.heap.size W4 w') => And.intro ((hb.cell (p := ⟨o, 0, none⟩) hOb.lt).trans oc0) (And.intro ((hb.cell (p := ⟨o, 1, none⟩) hOb.lt).trans oc1) (And.intro ((hb.cell (p := ⟨o, 2, none⟩) hOb.lt).trans oc2) ((hb.cell (p := ⟨o, 3, none⟩) hOb.lt).trans oc3))))
  have HN0 := hide N0
  have HN1 := hide N1
  have HB4 := hide (HB3.out.trans (hb4.mono HB3.out.size))
  have HG4 := hide (HG3.out.below hb4 HG3.out.lt)
  have BX4 := hide (BX3.out.below hb4 BX3.out.lt)
  have WN : Hid (Calls Tryd.prog 34 #[.int .i64 65] W4 fun e w' => e = .returned (.tuple #[.agg #[.string ⟨#[]⟩, .slice none 0 0], .int .i64 2]) ∧ Below W4.heap.size W4 w') := hide (World_no 65 W4 (.inr (by omega)))
  clear h4 hb4 hperm hsrt hgs hgl hgs2 hp0 hp1 hout hB0 hOb hOc oc0 oc1 oc2 oc3 N0 N1 SC HG3 BX3 HB3 a0 a1 z0 z1 f0 f1
  go_wp2_with fail
  refine WN.out.mono ?_
  rintro e W5 ⟨rfl, hb5⟩
  obtain ⟨hbk, hbx⟩ := box2 W5 24 (.string ⟨#[]⟩) (.slice none 0 0) (.string ⟨#[]⟩) (.slice none 0 0)
  have bz := Blk.new W5 24 #[.string ⟨#[]⟩, .slice none 0 0]
  obtain ⟨Wb, hWb⟩ : ∃ x, W5.alloc (.cells #[.string ⟨#[]⟩, .slice none 0 0] 24) = x := ⟨_, rfl⟩
  rw [hWb] at hbk hbx bz
  have z0 : Wb.cell? ⟨W5.heap.size, 0, none⟩ = some (.string ⟨#[]⟩) := bz.cell 0
  have z1 : Wb.cell? ⟨W5.heap.size, 1, none⟩ = some (.slice none 0 0) := bz.cell 1
  have f0 := bz.frozen 0
  have f1 := bz.frozen 1
  obtain ⟨W6, hW6⟩ : ∃ x, (Wb.setCell ⟨W5.heap.size, 0, none⟩ (.string ⟨#[]⟩)).setCell ⟨W5.heap.size, 1, none⟩ (.slice none 0 0) = x := ⟨_, rfl⟩
  rw [hW6] at hbk hbx
  have hb56 := hb5.trans (hbx.mono hb5.size)
  have HQ6 := hide hb56
  have HB6 := hide (HB4.out.trans (hb56.mono HB4.out.size))
  have HG6 := hide (HG4.out.below hb56 HG4.out.lt)
  have BX6 := BX4.out.below hb56 BX4.out.lt
  have a0 : W6.cell? ⟨W1.heap.size, 0, none⟩ = some (.string ⟨#[]⟩) := BX6.cell 0
  have a1 : W6.cell? ⟨W1.heap.size, 1, none⟩ = some (.slice (some ⟨g1, 0, none⟩) 4 4) := BX6.cell 1
  have DC : Hid (Calls Tryd.prog 11 #[.agg #[.string ⟨#[]⟩, .slice (some ⟨g1, 0, none⟩) 4 4], .int .i64 12] W6 (dupPost ⟨#[]⟩ (upto 4) 12 W6)) := hide (Dup_c ⟨#[]⟩ (some ⟨g1, 0, none⟩) 4 (upto 4) 12 W6 (blk_nrow HG6.out) (by decide) (HP.out.below HB6.out (Nat.le_refl _)) (by decide) (by omega))
  clear hbk hbx bz hb5 hb56 BX6 WN
  go_wp2_with fail
  refine DC.out.mono ?_
  rintro e W7 ⟨h7, hb7⟩
  obtain ⟨_, g7, rfl, hg7, hgb7⟩ := h7.resolve_left (fun h => by
    rcases h.1 with h | h
    · exact h may4
    · omega)
  rw [key12, show (upto 4).length = 4 from rfl]
  obtain ⟨hbk, hbx⟩ := box2 W7 24 (.string ⟨#[]⟩) (.slice none 0 0) (.string ⟨#[46, 49, 50]⟩) (.slice (some ⟨g7, 0, none⟩) 4 4)
  have bz := Blk.new W7 24 #[.string ⟨#[]⟩, .slice none 0 0]
  obtain ⟨Wc, hWc⟩ : ∃ x, W7.alloc (.cells #[.string ⟨#[]⟩, .slice none 0 0] 24) = x := ⟨_, rfl⟩
  rw [hWc] at hbk hbx bz
  have y0 : Wc.cell? ⟨W7.heap.size, 0, none⟩ = some (.string ⟨#[]⟩) := bz.cell 0
  have y1 : Wc.cell? ⟨W7.heap.size, 1, none⟩ = some (.slice none 0 0) := bz.cell 1
  have e0 := bz.frozen 0
  have e1 := bz.frozen 1
  obtain ⟨W8, hW8⟩ : ∃ x, (Wc.setCell ⟨W7.heap.size, 0, none⟩ (.string ⟨#[46, 49, 50]⟩)).setCell ⟨W7.heap.size, 1, none⟩ (.slice (some ⟨g7, 0, none⟩) 4 4) = x := ⟨_, rfl⟩
  rw [hW8] at hbk hbx
  have d0 : W8.cell? ⟨W7.heap.size, 0, none⟩ = some (.string ⟨#[46, 49, 50]⟩) := hbk.cell 0
  have hb78 := hb7.trans (hbx.mono hb7.size)
  have HQ8 := hide (HQ6.out.trans (hb78.mono HQ6.out.size))
  have HB8 := hide (HB6.out.trans (hb78.mono HB6.out.size))
  obtain ⟨oc0, oc1, _, _⟩ := HOC.out W8 HQ8.out
  have kr := Blk.new W8 3 (ints [1]).toArray
  have hbr := (Below.refl W8.heap.size W8).alloc (Nat.le_refl _) (.cells (ints [1]).toArray 3)
  have SM0 : Hid (Calls Tryd.prog 15 #[.agg #[.string ⟨#[46, 48, 58, 48]⟩, .slice A0 1 k0], .agg #[.string ⟨#[46, 48, 58, 48]⟩, .slice (some ⟨W8.heap.size, 0, none⟩) 1 1]] (W8.alloc (.cells (ints [1]).toArray 3)) fun e w' => e = .returned (.bool true) ∧ Below (W8.alloc (.cells (ints [1]).toArray 3)).heap.size (W8.alloc (.cells (ints [1]).toArray 3)) w') := hide ((Same_b ⟨#[46, 48, 58, 48]⟩ ⟨#[46, 48, 58, 48]⟩ A0 (some ⟨W8.heap.size, 0, none⟩) k0 1 [1] [1] (W8.alloc (.cells (ints [1]).toArray 3)) ((HN0.out.below HQ8.out).below hbr) (blk_nrow kr) (by decide) (by decide)).mono fun e w' h => by simpa using h)
  have HBR := hide hbr
  clear hbk hbx bz hb7 hb78 kr hbr h7 hgb7 DC
  go_wp2_with fail
  refine SM0.out.mono ?_
  rintro e W9 ⟨rfl, hb9⟩
  have hb89 := HBR.out.trans (hb9.mono HBR.out.size)
  have HQ9 := hide (HQ8.out.trans (hb89.mono HQ8.out.size))
  have HB9 := hide (HB8.out.trans (hb89.mono HB8.out.size))
  obtain ⟨_, _, oc2, oc3⟩ := HOC.out W9 HQ9.out
  have kr := Blk.new W9 3 (ints [2, 0]).toArray
  have hbr := (Below.refl W9.heap.size W9).alloc (Nat.le_refl _) (.cells (ints [2, 0]).toArray 3)
  have SM1 : Hid (Calls Tryd.prog 15 #[.agg #[.string ⟨#[46, 48, 58, 49]⟩, .slice A1 2 k1], .agg #[.string ⟨#[46, 48, 58, 49]⟩, .slice (some ⟨W9.heap.size, 0, none⟩) 2 2]] (W9.alloc (.cells (ints [2, 0]).toArray 3)) fun e w' => e = .returned (.bool true) ∧ Below (W9.alloc (.cells (ints [2, 0]).toArray 3)).heap.size (W9.alloc (.cells (ints [2, 0]).toArray 3)) w') := hide ((Same_b ⟨#[46, 48, 58, 49]⟩ ⟨#[46, 48, 58, 49]⟩ A1 (some ⟨W9.heap.size, 0, none⟩) k1 2 [2, 0] [2, 0] (W9.alloc (.cells (ints [2, 0]).toArray 3)) ((HN1.out.below HQ9.out).below hbr) (blk_nrow kr) (by decide) (by decide)).mono fun e w' h => by simpa using h)
  have HBS := hide hbr
  clear hb9 hb89 kr hbr SM0
  go_wp2_with fail
  refine SM1.out.mono ?_
  rintro e Wd ⟨rfl, hbd⟩
  have hb9d := HBS.out.trans (hbd.mono HBS.out.size)
  have HBd := hide (HB9.out.trans (hb9d.mono HB9.out.size))
  clear hbd hb9d
  go_wp2_with fail
  go_ret
  exact ⟨rfl, HBd.out⟩
end Sp
end Go.Proofs.YtgiibknfkphkgaaDoor
