/- The walk of the statement GroupPlays: of any group and any acts; without conditions. -/
import Derived.Test.YteddfedeghchgaaRows
import Derived.Test.YteddfedeghchgaaGrpS
import Derived.Test.YteddfedeghchgaaRelS
import Derived.LoopN
import Derived.Deep.CutRange
import Derived.Deep.QuietTactic
import Derived.BigQuiet
namespace Go.Proofs.Yteddfedeghchgaa.GroupPlaysW
open Go Go.Joins Go.ChangeShapes Go.WideShapes Go.RowKit Go.Deep Go.Proofs.Yteddfedeghchgaa Go.Proofs.Yteddfedeghchgaa.Grp
set_option linter.unusedVariables false
set_option linter.unusedSimpArgs false
/-- A box of four cells, filled. -/
theorem box4 (w : World) (t : TypeId) (d0 d1 d2 d3 c0 c1 c2 c3 : Value) :
    Blk (((((w.alloc (.cells #[d0, d1, d2, d3] t)).setCell ⟨w.heap.size, 0, none⟩ c0).setCell ⟨w.heap.size, 1, none⟩ c1).setCell ⟨w.heap.size, 2, none⟩ c2).setCell ⟨w.heap.size, 3, none⟩ c3) w.heap.size t #[c0, c1, c2, c3] ∧
    Below w.heap.size w (((((w.alloc (.cells #[d0, d1, d2, d3] t)).setCell ⟨w.heap.size, 0, none⟩ c0).setCell ⟨w.heap.size, 1, none⟩ c1).setCell ⟨w.heap.size, 2, none⟩ c2).setCell ⟨w.heap.size, 3, none⟩ c3) :=
  ⟨((((Blk.new w t #[d0, d1, d2, d3]).set_ 0 c0).set_ 1 c1).set_ 2 c2).set_ 3 c3,
   (((((Below.refl _ w).alloc (Nat.le_refl _) _).setCell (p := ⟨w.heap.size, 0, none⟩) (Nat.le_refl _) _).setCell (p := ⟨w.heap.size, 1, none⟩) (Nat.le_refl _) _).setCell (p := ⟨w.heap.size, 2, none⟩) (Nat.le_refl _) _).setCell (p := ⟨w.heap.size, 3, none⟩) (Nat.le_refl _) _⟩
theorem box2 (w : World) (t : TypeId) (d0 d1 c0 c1 : Value) :
    Blk (((w.alloc (.cells #[d0, d1] t)).setCell ⟨w.heap.size, 0, none⟩ c0).setCell ⟨w.heap.size, 1, none⟩ c1) w.heap.size t #[c0, c1] ∧
    Below w.heap.size w (((w.alloc (.cells #[d0, d1] t)).setCell ⟨w.heap.size, 0, none⟩ c0).setCell ⟨w.heap.size, 1, none⟩ c1) :=
  ⟨((Blk.new w t #[d0, d1]).set_ 0 c0).set_ 1 c1,
   (((Below.refl _ w).alloc (Nat.le_refl _) _).setCell (p := ⟨w.heap.size, 0, none⟩) (Nat.le_refl _) _).setCell (p := ⟨w.heap.size, 1, none⟩) (Nat.le_refl _) _⟩
theorem below_drewN (w : World) : ∀ m, Below w.heap.size w (w.drewN m)
  | 0 => Below.refl _ _
  | m + 1 => by rw [show w.drewN (m + 1) = (w.drewN m).drew from rfl]; exact (below_drewN w m).drew
theorem rem4 {k : Int} (h0 : 0 ≤ k) : Int.tmod k 4 = 0 ∨ Int.tmod k 4 = 1 ∨ Int.tmod k 4 = 2 ∨ Int.tmod k 4 = 3 := by
  rw [Int.tmod_eq_emod_of_nonneg h0]
  omega
set_option maxRecDepth 100000 in
set_option maxHeartbeats 8000000 in
theorem walk {H : Type} {enc : TypeId × Value → H} {base : Nat} (W : World) (v0 : Value) (d0 : DataW H) (p0 : List MemPlace) (o0 : Value.okWide Try.prog W .any base 24 v0) (r0 : DataW.Trod enc Try.prog W 0 (fun _ => true) true 24 v0 d0 p0) (v1 : Value) (d1 : DataW H) (p1 : List MemPlace) (o1 : Value.okWide Try.prog W .any base 25 v1) (r1 : DataW.Trod enc Try.prog W 0 (fun _ => true) true 25 v1 d1 p1) :
    Calls Try.prog 3 #[v0, v1] W fun e w' => e = .returned (.bool true) ∧ Below W.heap.size W w' := by
  obtain ⟨key, A, row, cap, rfl, hr⟩ := group_of o0 r0 (fun _ => rfl)
  obtain ⟨L, n, lc, F, rfl, hn, hF⟩ := acts_of o1 r1 (fun _ => rfl)
  clear o0 r0 o1 r1
  have hb1 := (Below.refl W.heap.size W).alloc (Nat.le_refl _) (.cells #[.string key, .slice A row.length cap] 24)
  have b1 := Blk.new W 24 #[.string key, .slice A row.length cap]
  have hs1 : (W.alloc (.cells #[.string key, .slice A row.length cap] 24)).heap.size = W.heap.size + 1 := by simp
  obtain ⟨W1, hW1⟩ : ∃ W1, W.alloc (.cells #[.string key, .slice A row.length cap] 24) = W1 := ⟨_, rfl⟩
  rw [hW1] at hb1 b1 hs1
  have q0 : W1.cell? ⟨W.heap.size, 0, none⟩ = some (.string key) := b1.cell 0
  have q1 : W1.cell? ⟨W.heap.size, 1, none⟩ = some (.slice A row.length cap) := b1.cell 1
  have hr1 := hr.below hb1
  have G1 := hide (Great_a key A row.length cap W1)
  have HB1 := hide hb1
  have B1 := hide b1
  have HR := hide hr1
  have HF := hide (hF.below hb1)
  have HS := hide hs1
  clear hb1 b1 hr hr1 hF hs1
  cases hg : gt key row.length with
  | true =>
    rw [hg] at G1
    go_enter Try.func3, Try.ntmps3
    go_wp2_with fail
    refine G1.out.mono ?_
    rintro e w2 ⟨rfl, hb2⟩
    have HB2 := hide (HB1.out.trans (hb2.mono HB1.out.size))
    clear hb2
    go_wp2_with fail
    go_ret
    exact ⟨rfl, HB2.out⟩
  | false =>
  rw [hg] at G1
  have hrl : row.length ≤ 80 := by
    unfold gt at hg
    simp at hg
    omega
  by_cases hn100 : 100 < n
  · have nI : (100 : Int) < (n : Int) := by omega
    clear hn100 hrl hg
    go_enter Try.func3, Try.ntmps3
    go_wp2_with fail
    refine G1.out.mono ?_
    rintro e w2 ⟨rfl, hb2⟩
    have HB2 := hide (HB1.out.trans (hb2.mono HB1.out.size))
    clear hb2
    go_wp2_with fail
    go_ret
    exact ⟨rfl, HB2.out⟩
  have nI : ¬ (100 : Int) < (n : Int) := by omega
  have HRL := hide hrl
  clear hn100 hrl hg hn
  go_enter Try.func3, Try.ntmps3
  go_wp2_with fail
  refine G1.out.mono ?_
  rintro e w2 ⟨rfl, hb2⟩
  have N2 := hide (New_a key A cap row w2 (HR.out.below hb2) (by have := HRL.out; omega))
  have b2 := B1.out.below hb2 B1.out.lt
  have q20 : w2.cell? ⟨W.heap.size, 0, none⟩ = some (.string key) := b2.cell 0
  have q21 : w2.cell? ⟨W.heap.size, 1, none⟩ = some (.slice A row.length cap) := b2.cell 1
  have HB2 := hide hb2
  clear hb2 q0 q1 b2
  go_wp2_with fail
  refine N2.out.mono ?_
  rintro e w3 ⟨he3, hb3⟩
  have hb13 := HB2.out.trans (hb3.mono HB2.out.size)
  have N3 := hide (New_b key A cap row w3 (HR.out.below hb13) (by have := HRL.out; omega))
  have b3 := B1.out.below hb13 B1.out.lt
  have q30 : w3.cell? ⟨W.heap.size, 0, none⟩ = some (.string key) := b3.cell 0
  have q31 : w3.cell? ⟨W.heap.size, 1, none⟩ = some (.slice A row.length cap) := b3.cell 1
  have HB3 := hide hb13
  clear hb3 q20 q21 b3 hb13
  by_cases hm : mayL row
  rotate_left
  · rw [if_neg hm] at he3
    subst he3
    go_wp2_with fail
    refine N3.out.mono ?_
    rintro e w4 ⟨he4, hb4⟩
    rw [if_neg hm] at he4
    subst he4
    have HB4 := hide (HB1.out.trans ((HB3.out.trans (hb4.mono HB3.out.size)).mono HB1.out.size))
    clear hb4 hm
    go_wp2_with fail
    go_ret
    exact ⟨rfl, HB4.out⟩
  rw [if_pos hm] at he3
  obtain ⟨T, A', rfl, hT, hTA⟩ := he3
  have PA3 : PA w3 T W1.heap.size [(key, row, false)] := ⟨Nat.le_trans HB2.out.size hT, _, hTA.more HB2.out.size, rfl⟩
  have P3 := hide PA3
  clear hT hTA PA3
  go_wp2_with fail
  refine N3.out.mono ?_
  rintro e w4 ⟨he4, hb4⟩
  rw [if_pos hm] at he4
  obtain ⟨U, A'', c'', rfl, hU, hTB⟩ := he4
  have PB4 : PB w4 U W1.heap.size [(key, row, false)] := ⟨Nat.le_trans HB3.out.size hU, _, hTB.more HB3.out.size, rfl⟩
  have P4 := hide PB4
  have P3 := hide (P3.out.below hb4)
  have HB4 := hide (HB3.out.trans (hb4.mono HB3.out.size))
  have HM := hide hm
  clear hU hTB PB4 hb4 hm q30 q31
  go_wp2_with fail
  go_loopw [5, 7, 9] (fun vt vu vi wr => ∃ (k T U : Nat) (ss : List S3), k ≤ n ∧ vi = .int .i64 k ∧ vt = .pointer (some ⟨T, 0, none⟩) ∧ vu = .pointer (some ⟨U, 0, none⟩) ∧ Hid (PA wr T W1.heap.size ss) ∧ Hid (PB wr U W1.heap.size ss) ∧ Hid (Below W1.heap.size W1 wr)) (fun _ _ vi _ => n - (intOf vi).toNat)
  case atStart => exact ⟨0, T, U, _, by omega, rfl, rfl, rfl, P3, P4, HB4⟩
  case round =>
    clear P3 P4 HB4
    obtain ⟨k, T, U, ss, hk, rfl, rfl, rfl, P1, P2, HB⟩ := hrel
    by_cases hlt : k < n
    rotate_left
    · have hltI : ¬ (k : Int) < (n : Int) := by omega
      go_wp2_with fail
      go_ret
      exact ⟨rfl, HB1.out.trans (HB.out.mono HB1.out.size)⟩
    have hltI : (k : Int) < (n : Int) := by omega
    obtain ⟨a, rfl, c0, c1, c2, c3, hxr, k0, k1, halt⟩ := HF.out k hlt
    have hbw := HB.out
    have c0 := (hbw.cell halt).trans c0
    have c1 := (hbw.cell (p := ⟨_, _, none⟩) halt).trans c1
    have c2 := (hbw.cell (p := ⟨_, _, none⟩) halt).trans c2
    have c3 := (hbw.cell (p := ⟨_, _, none⟩) halt).trans c3
    have XR := hide (fun (w' : World) (h : Below W1.heap.size W1 w') => hxr.below h)
    generalize F k = x at *
    obtain ⟨kind, h, xkey, xA, xcap, xl⟩ := x
    simp only at c0 c1 c2 c3 k0 k1 XR
    obtain ⟨bx, hbx⟩ := box4 wr 35 (.int .u8 0) (.int .i64 0) (.string ⟨#[]⟩) (.slice none 0 0) (.int .u8 kind) (.int .i64 h) (.string xkey) (.slice xA xl.length xcap)
    have bz := Blk.new wr 35 #[.int .u8 0, .int .i64 0, .string ⟨#[]⟩, .slice none 0 0]
    obtain ⟨wa, hwa⟩ : ∃ x, wr.alloc (.cells #[.int .u8 0, .int .i64 0, .string ⟨#[]⟩, .slice none 0 0] 35) = x := ⟨_, rfl⟩
    rw [hwa] at bx hbx bz
    have z0 : wa.cell? ⟨wr.heap.size, 0, none⟩ = some (.int .u8 0) := bz.cell 0
    have z1 : wa.cell? ⟨wr.heap.size, 1, none⟩ = some (.int .i64 0) := bz.cell 1
    have z2 : wa.cell? ⟨wr.heap.size, 2, none⟩ = some (.string ⟨#[]⟩) := bz.cell 2
    have z3 : wa.cell? ⟨wr.heap.size, 3, none⟩ = some (.slice none 0 0) := bz.cell 3
    have f0 := bz.frozen 0
    have f1 := bz.frozen 1
    have f2 := bz.frozen 2
    have f3 := bz.frozen 3
    obtain ⟨wx, hwx⟩ : ∃ x, (((wa.setCell ⟨wr.heap.size, 0, none⟩ (.int .u8 kind)).setCell ⟨wr.heap.size, 1, none⟩ (.int .i64 h)).setCell ⟨wr.heap.size, 2, none⟩ (.string xkey)).setCell ⟨wr.heap.size, 3, none⟩ (.slice xA xl.length xcap) = x := ⟨_, rfl⟩
    rw [hwx] at bx hbx
    have y2 : wx.cell? ⟨wr.heap.size, 2, none⟩ = some (.string xkey) := bx.cell 2
    have y3 : wx.cell? ⟨wr.heap.size, 3, none⟩ = some (.slice xA xl.length xcap) := bx.cell 3
    have P1 := hide (P1.out.below hbx)
    have P2 := hide (P2.out.below hbx)
    have HBX := hide (hbw.trans (hbx.mono hbw.size))
    have BX := hide bx
    have GR := hide (Great_a xkey xA xl.length xcap wx)
    have RM := hide (rem4 k0)
    have HKI := hide (And.intro k0 k1)
    have HX := hide (Nat.le_trans hbw.size (Nat.le_refl wr.heap.size))
    clear hbw hbx bx bz hxr k0 k1 HB
    go_wp2_with fail
    clear hwa hwx z0 z1 z2 z3 f0 f1 f2 f3 c0 c1 c2 c3
    refine GR.out.mono ?_
    rintro e wg ⟨rfl, hbg⟩
    have P1 := hide (P1.out.below hbg)
    have P2 := hide (P2.out.below hbg)
    have BX := hide (BX.out.below hbg BX.out.lt)
    have HBG := hide (HBX.out.trans (hbg.mono HBX.out.size))
    clear hbg HBX GR y2 y3
    cases hg : gt xkey xl.length with
    | true =>
      go_wp2_with fail
      go_ret
      exact ⟨rfl, HB1.out.trans (HBG.out.mono HB1.out.size)⟩
    | false =>
    have hxl : xl.length ≤ 80 := by
      unfold gt at hg
      simp at hg
      omega
    have HXL := hide hxl
    clear hg hxl
    have y0 : wg.cell? ⟨wr.heap.size, 0, none⟩ = some (.int .u8 kind) := BX.out.cell 0
    have y1 : wg.cell? ⟨wr.heap.size, 1, none⟩ = some (.int .i64 h) := BX.out.cell 1
    have y2 : wg.cell? ⟨wr.heap.size, 2, none⟩ = some (.string xkey) := BX.out.cell 2
    have y3 : wg.cell? ⟨wr.heap.size, 3, none⟩ = some (.slice xA xl.length xcap) := BX.out.cell 3
    rcases RM.out with hm | hm | hm | hm
    · have AA := hide (AddA T W1.heap.size ss xkey xA xcap xl wg P1.out (fun w' hb => XR.out w' (HBG.out.trans hb)) (by have := HXL.out; omega))
      go_wp2_with fail
      refine AA.out.mono ?_
      rintro e wh ⟨rfl, hp1, hbh, hkh, _⟩
      have P2h := hide (P2.out.keep hkh (by decide) (by decide) (by decide) (by decide))
      have BXh := hide (hkh.blk BX.out (by decide))
      have HBH := hide (HBG.out.trans hbh)
      have P1h := hide hp1
      have AB := hide (AddB U W1.heap.size ss xkey xA xcap xl wh P2h.out (fun w' hb => XR.out w' (HBH.out.trans hb)) (by have := HXL.out; omega))
      have y2h : wh.cell? ⟨wr.heap.size, 2, none⟩ = some (.string xkey) := BXh.out.cell 2
      have y3h : wh.cell? ⟨wr.heap.size, 3, none⟩ = some (.slice xA xl.length xcap) := BXh.out.cell 3
      clear hp1 hbh hkh y0 y1 y2 y3
      generalize addN ss xl = ad at *
      generalize addF ss xl = fl at *
      go_wp2_with fail
      refine AB.out.mono ?_
      rintro e wi ⟨rfl, hp2, hbi, hki⟩
      have P1i := hide (P1h.out.keep hki (by decide) (by decide) (by decide))
      have P2i := hide hp2
      have HBI := hide (HBH.out.trans hbi)
      clear hp2 hbi hki y2h y3h
      obtain ⟨gU, cU, hcU⟩ := P2i.out.cell
      have MN := hide (fun (m : Nat) => (ManyA T W1.heap.size (addS ss xkey xl) (wi.drewN m) (P1i.out.below (below_drewN wi m))).mono fun _ _ hh => And.intro hh.1 hh.2.symm)
      obtain ⟨nn, hnn⟩ : ∃ x, ((addS ss xkey xl)).length = x := ⟨_, rfl⟩
      rw [hnn] at hcU MN
      go_wp2_with fail
      go_quiet ((go_at_call 16; exact Calls.quiet_of_same (MN.out _)))
      go_wp2_with fail
      go_roundw
      case rel => exact ⟨k + 1, T, U, (addS ss xkey xl), by omega, by go_num, rfl, rfl, hide (P1i.out.below (below_drewN wi _)), hide (P2i.out.below (below_drewN wi _)), hide (HBI.out.trans ((below_drewN wi _).mono HBI.out.size))⟩
      case measure => simp [intOf]; omega
    · have AA := hide (AtA T W1.heap.size ss h wg P1.out)
      have AB0 := hide (fun (w' : World) (hb : Below wg.heap.size wg w') => AtB U W1.heap.size ss h w' (P2.out.below hb))
      obtain ⟨ky, hky⟩ : ∃ y, atK ss h = y := ⟨_, rfl⟩
      obtain ⟨rw', hrw⟩ : ∃ y, atL ss h = y := ⟨_, rfl⟩
      obtain ⟨ak, hak⟩ : ∃ y, askS ss h = y := ⟨_, rfl⟩
      rw [hky, hrw, hak] at AA AB0
      clear hky hrw hak
      go_wp2_with fail
      refine AA.out.mono ?_
      rintro e wh ⟨xa, xc, rfl, hxg, hbh⟩
      -- the first box
      obtain ⟨bx, hbx⟩ := box2 wh 24 (.string ⟨#[]⟩) (.slice none 0 0) (.string ky) (.slice xa rw'.length xc)
      have bz := Blk.new wh 24 #[.string ⟨#[]⟩, .slice none 0 0]
      obtain ⟨wa, hwa⟩ : ∃ x, wh.alloc (.cells #[.string ⟨#[]⟩, .slice none 0 0] 24) = x := ⟨_, rfl⟩
      rw [hwa] at bx hbx bz
      have z0 : wa.cell? ⟨wh.heap.size, 0, none⟩ = some (.string ⟨#[]⟩) := bz.cell 0
      have z1 : wa.cell? ⟨wh.heap.size, 1, none⟩ = some (.slice none 0 0) := bz.cell 1
      have f0 := bz.frozen 0
      have f1 := bz.frozen 1
      obtain ⟨wb, hwb⟩ : ∃ x, (wa.setCell ⟨wh.heap.size, 0, none⟩ (.string ky)).setCell ⟨wh.heap.size, 1, none⟩ (.slice xa rw'.length xc) = x := ⟨_, rfl⟩
      rw [hwb] at bx hbx
      have hbb := hbh.trans (hbx.mono hbh.size)
      have y1b : wb.cell? ⟨wr.heap.size, 1, none⟩ = some (.int .i64 h) := (BX.out.below hbb BX.out.lt).cell 1
      have AB := hide (AB0.out wb hbb)
      have BXB := hide bx
      have HXG : Hid (0 < rw'.length → ∃ g, xa = some ⟨g, 0, none⟩ ∧ wg.heap.size ≤ g ∧ g < wh.heap.size ∧ Blk wb g 3 (ints rw').toArray) := hide fun hp => by
        obtain ⟨g, e1, e2, e3⟩ := hxg hp
        exact ⟨g, e1, e2, e3.lt, e3.below hbx e3.lt⟩
      have HBB := hide hbb
      have HSH := hide (show wh.heap.size < wb.heap.size from bx.lt)
      have HSG := hide hbh.size
      clear bx hbx bz hbb hxg hbh y0 y1 y2 y3 AB0
      go_wp2_with fail
      clear z0 z1 f0 f1 hwa hwb
      refine AB.out.mono ?_
      rintro e wi ⟨ya, yc, rfl, hyr, h64, hbi⟩
      -- the second box
      obtain ⟨bx, hbx⟩ := box2 wi 24 (.string ⟨#[]⟩) (.slice none 0 0) (.string ky) (.slice ya rw'.length yc)
      have bz := Blk.new wi 24 #[.string ⟨#[]⟩, .slice none 0 0]
      obtain ⟨wa, hwa⟩ : ∃ x, wi.alloc (.cells #[.string ⟨#[]⟩, .slice none 0 0] 24) = x := ⟨_, rfl⟩
      rw [hwa] at bx hbx bz
      have z0 : wa.cell? ⟨wi.heap.size, 0, none⟩ = some (.string ⟨#[]⟩) := bz.cell 0
      have z1 : wa.cell? ⟨wi.heap.size, 1, none⟩ = some (.slice none 0 0) := bz.cell 1
      have f0 := bz.frozen 0
      have f1 := bz.frozen 1
      obtain ⟨wc, hwc⟩ : ∃ x, (wa.setCell ⟨wi.heap.size, 0, none⟩ (.string ky)).setCell ⟨wi.heap.size, 1, none⟩ (.slice ya rw'.length yc) = x := ⟨_, rfl⟩
      rw [hwc] at bx hbx
      have hbc := hbi.trans (hbx.mono hbi.size)
      have BXC := hide (BXB.out.below hbc HSH.out)
      have HXC : Hid (0 < rw'.length → ∃ g, xa = some ⟨g, 0, none⟩ ∧ wg.heap.size ≤ g ∧ g < wh.heap.size ∧ Blk wc g 3 (ints rw').toArray) := hide fun hp => by
        obtain ⟨g, e1, e2, e3, e4⟩ := HXG.out hp
        exact ⟨g, e1, e2, e3, e4.below hbc e4.lt⟩
      have HBC := hide (HBB.out.trans (hbc.mono HBB.out.size))
      have v0 : wc.cell? ⟨wh.heap.size, 0, none⟩ = some (.string ky) := BXC.out.cell 0
      have v1 : wc.cell? ⟨wh.heap.size, 1, none⟩ = some (.slice xa rw'.length xc) := BXC.out.cell 1
      have v2 : wc.cell? ⟨wi.heap.size, 0, none⟩ = some (.string ky) := bx.cell 0
      have v3 : wc.cell? ⟨wi.heap.size, 1, none⟩ = some (.slice ya rw'.length yc) := bx.cell 1
      have hxr : NRow wc xa rw' := fun hp => by
        obtain ⟨g, e1, e2, e3, e4⟩ := HXC.out hp
        exact (IRow.of_blk e4).nrow hp |> fun ⟨a', h1, h2⟩ => ⟨a', e1.trans h1, h2⟩
      have SB := hide (Same_b ky ky xa ya xc yc rw' rw' wc hxr (hyr.below hbx) (by omega) (by omega))
      rw [decide_eq_true (show ky = ky ∧ rw' = rw' from ⟨rfl, rfl⟩)] at SB
      have H64 := hide h64
      clear bx hbx bz hbc hyr h64 hbi hxr y1b
      go_wp2_with fail
      clear z0 z1 f0 f1 hwa hwc
      refine SB.out.mono ?_
      rintro e wd ⟨rfl, hbd⟩
      have BXD := hide (BXC.out.below hbd BXC.out.lt)
      have HXD : Hid (0 < rw'.length → ∃ g cs, xa = some ⟨g, 0, none⟩ ∧ wg.heap.size ≤ g ∧ g < wh.heap.size ∧ Blk wd g 3 cs ∧ cs.size = rw'.length) := hide fun hp => by
        obtain ⟨g, e1, e2, e3, e4⟩ := HXC.out hp
        exact ⟨g, _, e1, e2, e3, e4.below hbd e4.lt, by rw [List.size_toArray, ints_len]⟩
      have HBD := hide (HBC.out.trans (hbd.mono HBC.out.size))
      clear hbd v0 v1 v2 v3 SB
      go_wp2_with fail
      go_loopw [19] (fun vj ws => ∃ (j : Nat), j ≤ rw'.length ∧ vj = .int .i64 j ∧ Hid (Blk ws wh.heap.size 24 #[.string ky, .slice xa rw'.length xc]) ∧ Hid (0 < rw'.length → ∃ g cs, xa = some ⟨g, 0, none⟩ ∧ wg.heap.size ≤ g ∧ g < wh.heap.size ∧ Blk ws g 3 cs ∧ cs.size = rw'.length) ∧ Hid (Below wg.heap.size wg ws)) (fun vj _ => rw'.length - (intOf vj).toNat)
      case atStart => exact ⟨0, by omega, rfl, BXD, HXD, HBD⟩
      case round =>
        clear BXD HXD HBD
        obtain ⟨j, hj, rfl, BS, HXS, HBS⟩ := hrel
        have v1 : wr.cell? ⟨wh.heap.size, 1, none⟩ = some (.slice xa rw'.length xc) := BS.out.cell 1
        by_cases hjl : j < rw'.length
        · obtain ⟨g, cs, rfl, hg1, hg2, hg3, hg4⟩ := HXS.out (by omega)
          have hjI : (j : Int) < (rw'.length : Int) := by omega
          obtain ⟨ov, hov⟩ : ∃ v, cs[j]? = some v := ⟨_, Array.getElem?_eq_getElem (by omega)⟩
          have cj : wr.cell? ⟨g, j, none⟩ = some ov := (hg3.cell j).trans hov
          have fj := hg3.frozen j
          have B2 := hide (BS.out.far (p := ⟨g, j, none⟩) (by show wh.heap.size ≠ g; omega) (.int .i64 99))
          have X2 : Hid (0 < rw'.length → ∃ g' cs, (some ⟨g, 0, none⟩ : Option Addr) = some ⟨g', 0, none⟩ ∧ wg.heap.size ≤ g' ∧ g' < wh.heap.size ∧ Blk (wr.setCell ⟨g, j, none⟩ (.int .i64 99)) g' 3 cs ∧ cs.size = rw'.length) := hide fun _ => ⟨g, _, rfl, hg1, hg2, hg3.set_ j (.int .i64 99), by rw [Array.size_setIfInBounds]; exact hg4⟩
          have H2 := hide (HBS.out.setCell (p := ⟨g, j, none⟩) hg1 (.int .i64 99))
          have h64 := H64.out
          clear hg1 hg2 hg3 hg4 hov
          go_wp2_with fail
          go_roundw
          case rel => exact ⟨j + 1, by omega, by go_num, B2, X2, H2⟩
          case measure => simp [intOf]; omega
        · have hjI : ¬ (j : Int) < (rw'.length : Int) := by omega
          have P1s := hide (P1.out.below HBS.out)
          have P2s := hide (P2.out.below HBS.out)
          have HBs := hide (HBG.out.trans (HBS.out.mono HBG.out.size))
          obtain ⟨gU, cU, hcU⟩ := P2s.out.cell
          have MN := hide (fun (m : Nat) => (ManyA T W1.heap.size ss (wr.drewN m) (P1s.out.below (below_drewN wr m))).mono fun _ _ hh => And.intro hh.1 hh.2.symm)
          obtain ⟨nn, hnn⟩ : ∃ x, (ss).length = x := ⟨_, rfl⟩
          rw [hnn] at hcU MN
          go_wp2_with fail
          go_quiet ((go_at_call 16; exact Calls.quiet_of_same (MN.out _)))
          go_wp2_with fail
          go_roundw
          case rel => exact ⟨k + 1, T, U, ss, by omega, by go_num, rfl, rfl, hide (P1s.out.below (below_drewN wr _)), hide (P2s.out.below (below_drewN wr _)), hide (HBs.out.trans ((below_drewN wr _).mono HBs.out.size))⟩
          case measure => simp [intOf]; omega
    · go_wp2_with fail
      clear y0 y1 y2 y3
      let R : Nat → Value → World → Prop := fun sl u _ => match sl with
        | 150 => u = .pointer (some ⟨T, 0, none⟩)
        | 154 => u = .pointer (some ⟨U, 0, none⟩)
        | 151 | 155 => u = .pointer (some ⟨wr.heap.size, 1, none⟩)
        | 152 | 156 => u = .int .i64 h
        | 153 | 157 => u = .int .i64 (askS ss h)
        | 158 => u = .bool false
        | _ => True
      let J : (Nat → Prop) → World → Prop := fun D w1 => (D 153 → PA w1 T W1.heap.size (freeS ss h)) ∧ (¬ D 153 → PA w1 T W1.heap.size ss) ∧ (D 157 → PB w1 U W1.heap.size (freeS ss h)) ∧ (¬ D 157 → PB w1 U W1.heap.size ss) ∧ Blk w1 wr.heap.size 35 #[.int .u8 kind, .int .i64 h, .string xkey, .slice xA xl.length xcap] ∧ Below W1.heap.size W1 w1
      have Jc : ∀ (D D' : Nat → Prop) (w1 : World), (D 153 ↔ D' 153) → (D 157 ↔ D' 157) → J D w1 → J D' w1 := fun D D' w1 h1 h2 ⟨j1, j2, j3, j4, j5⟩ => ⟨fun h => j1 (h1.2 h), fun h => j2 fun h' => h (h1.1 h'), fun h => j3 (h2.2 h), fun h => j4 fun h' => h (h2.1 h'), j5⟩
      refine wp_region_relS R (fun _ _ => True) J (by kernel_rfl) (by kernel_rfl) (by kernel_rfl) (fun t v _ _ h1 _ => ?mono) ⟨fun h => h.elim, fun _ => P1.out.below (Below.refl _ _).drew, fun h => h.elim, fun _ => P2.out.below (Below.refl _ _).drew, BX.out.drew, HBG.out.drew⟩ ?step ?fin
      case mono => exact h1
      case fin =>
        intro ff wi hj hr
        obtain ⟨j1, _, j3, _, _, j6⟩ := hj
        have P1i := hide (j1 (by decide))
        have P2i := hide (j3 (by decide))
        have HBI := hide j6
        have e158 : ff 158 = .bool false := hr 158 (by decide)
        clear hr j1 j3 j6 Jc
        simp only [putAll, slotsOf, List.filterMap_cons, List.filterMap_nil, List.foldl_cons, List.foldl_nil, Act.put, e158]
        simp only [List.setIfInBounds_toArray, List.set_cons_succ, List.set_cons_zero]
        obtain ⟨gU, cU, hcU⟩ := P2i.out.cell
        have MN := hide (fun (m : Nat) => (ManyA T W1.heap.size (freeS ss h) (wi.drewN m) (P1i.out.below (below_drewN wi m))).mono fun _ _ hh => And.intro hh.1 hh.2.symm)
        obtain ⟨nn, hnn⟩ : ∃ x, ((freeS ss h)).length = x := ⟨_, rfl⟩
        rw [hnn] at hcU MN
        go_wp2_with fail
        go_quiet ((go_at_call 16; exact Calls.quiet_of_same (MN.out _)))
        go_wp2_with fail
        go_roundw
        case rel => exact ⟨k + 1, T, U, (freeS ss h), by omega, by go_num, rfl, rfl, hide (P1i.out.below (below_drewN wi _)), hide (P2i.out.below (below_drewN wi _)), hide (HBI.out.trans ((below_drewN wi _).mono HBI.out.size))⟩
        case measure => simp [intOf]; omega
      case step =>
        intro o ho
        simp only [List.mem_cons, List.not_mem_nil, or_false] at ho
        rcases ho with rfl | rfl | rfl | rfl | rfl | rfl | rfl | rfl | rfl
        · intro D a w1 hD hj hsm hr
          have e5 : a.tmps.getD 5 undef = .pointer (some ⟨T, 0, none⟩) := hsm 5 (by decide)
          rw [Array.getD_eq_getD_getElem?] at e5
          unfold Oper.wp
          simp only [execOp, Act.eval, Array.getD_eq_getD_getElem?, e5]
          go_simp
          exact ⟨_, rfl, rfl, Jc D (fun t => D t ∨ 150 = t) w1 (by simp) (by simp) hj⟩
        · intro D a w1 hD hj hsm hr
          have e10 : a.tmps.getD 10 undef = .pointer (some ⟨wr.heap.size, 0, none⟩) := hsm 10 (by decide)
          rw [Array.getD_eq_getD_getElem?] at e10
          unfold Oper.wp
          simp only [execOp, Act.eval, Array.getD_eq_getD_getElem?, e10]
          go_simp
          exact ⟨_, rfl, rfl, Jc D (fun t => D t ∨ 151 = t) w1 (by simp) (by simp) hj⟩
        · intro D a w1 hD hj hsm hr
          have e151 : a.tmps.getD 151 undef = .pointer (some ⟨wr.heap.size, 1, none⟩) := hr 151 (by decide) (by apply Array.mem_toList_iff.1; repeat (first | exact List.Mem.head _ | apply List.Mem.tail))
          have c1 : w1.cell? ⟨wr.heap.size, 1, none⟩ = some (.int .i64 h) := hj.2.2.2.2.1.cell 1
          rw [Array.getD_eq_getD_getElem?] at e151
          unfold Oper.wp
          simp only [execOp, Act.eval, Array.getD_eq_getD_getElem?, e151]
          go_simp
          exact ⟨_, rfl, rfl, Jc D (fun t => D t ∨ 152 = t) w1 (by simp) (by simp) hj⟩
        · intro D a w1 hD hj hsm hr
          have e150 : a.tmps.getD 150 undef = .pointer (some ⟨T, 0, none⟩) := hr 150 (by decide) (by apply Array.mem_toList_iff.1; repeat (first | exact List.Mem.head _ | apply List.Mem.tail))
          have e152 : a.tmps.getD 152 undef = .int .i64 h := hr 152 (by decide) (by apply Array.mem_toList_iff.1; repeat (first | exact List.Mem.head _ | apply List.Mem.tail))
          rw [Array.getD_eq_getD_getElem?] at e150
          rw [Array.getD_eq_getD_getElem?] at e152
          unfold Oper.wp
          simp only [execOp, Act.eval, Array.getD_eq_getD_getElem?, e150, e152]
          go_simp
          refine (FreeA T W1.heap.size ss h w1 (hj.2.1 (hD 153 rfl))).mono ?_
          rintro e w2 ⟨rfl, hp, hb, hk, _⟩
          exact ⟨_, rfl, rfl, fun _ => hp, fun hn => absurd (.inr rfl) hn, fun h1 => (hj.2.2.1 (h1.resolve_right (by simp))).keep hk (by decide) (by decide) (by decide) (by decide), fun h1 => (hj.2.2.2.1 (fun h2 => h1 (.inl h2))).keep hk (by decide) (by decide) (by decide) (by decide), hk.blk hj.2.2.2.2.1 (by decide), hj.2.2.2.2.2.trans hb⟩
        · intro D a w1 hD hj hsm hr
          have e7 : a.tmps.getD 7 undef = .pointer (some ⟨U, 0, none⟩) := hsm 7 (by decide)
          rw [Array.getD_eq_getD_getElem?] at e7
          unfold Oper.wp
          simp only [execOp, Act.eval, Array.getD_eq_getD_getElem?, e7]
          go_simp
          exact ⟨_, rfl, rfl, Jc D (fun t => D t ∨ 154 = t) w1 (by simp) (by simp) hj⟩
        · intro D a w1 hD hj hsm hr
          have e10 : a.tmps.getD 10 undef = .pointer (some ⟨wr.heap.size, 0, none⟩) := hsm 10 (by decide)
          rw [Array.getD_eq_getD_getElem?] at e10
          unfold Oper.wp
          simp only [execOp, Act.eval, Array.getD_eq_getD_getElem?, e10]
          go_simp
          exact ⟨_, rfl, rfl, Jc D (fun t => D t ∨ 155 = t) w1 (by simp) (by simp) hj⟩
        · intro D a w1 hD hj hsm hr
          have e155 : a.tmps.getD 155 undef = .pointer (some ⟨wr.heap.size, 1, none⟩) := hr 155 (by decide) (by apply Array.mem_toList_iff.1; repeat (first | exact List.Mem.head _ | apply List.Mem.tail))
          have c1 : w1.cell? ⟨wr.heap.size, 1, none⟩ = some (.int .i64 h) := hj.2.2.2.2.1.cell 1
          rw [Array.getD_eq_getD_getElem?] at e155
          unfold Oper.wp
          simp only [execOp, Act.eval, Array.getD_eq_getD_getElem?, e155]
          go_simp
          exact ⟨_, rfl, rfl, Jc D (fun t => D t ∨ 156 = t) w1 (by simp) (by simp) hj⟩
        · intro D a w1 hD hj hsm hr
          have e154 : a.tmps.getD 154 undef = .pointer (some ⟨U, 0, none⟩) := hr 154 (by decide) (by apply Array.mem_toList_iff.1; repeat (first | exact List.Mem.head _ | apply List.Mem.tail))
          have e156 : a.tmps.getD 156 undef = .int .i64 h := hr 156 (by decide) (by apply Array.mem_toList_iff.1; repeat (first | exact List.Mem.head _ | apply List.Mem.tail))
          rw [Array.getD_eq_getD_getElem?] at e154
          rw [Array.getD_eq_getD_getElem?] at e156
          unfold Oper.wp
          simp only [execOp, Act.eval, Array.getD_eq_getD_getElem?, e154, e156]
          go_simp
          refine (FreeB U W1.heap.size ss h w1 (hj.2.2.2.1 (hD 157 rfl))).mono ?_
          rintro e w2 ⟨rfl, hp, hb, hk⟩
          exact ⟨_, rfl, rfl, fun h1 => (hj.1 (h1.resolve_right (by simp))).keep hk (by decide) (by decide) (by decide), fun h1 => (hj.2.1 (fun h2 => h1 (.inl h2))).keep hk (by decide) (by decide) (by decide), fun _ => hp, fun hn => absurd (.inr rfl) hn, hk.blk hj.2.2.2.2.1 (by decide), hj.2.2.2.2.2.trans hb⟩
        · intro D a w1 hD hj hsm hr
          have e153 : a.tmps.getD 153 undef = .int .i64 (askS ss h) := hr 153 (by decide) (by apply Array.mem_toList_iff.1; repeat (first | exact List.Mem.head _ | apply List.Mem.tail))
          have e157 : a.tmps.getD 157 undef = .int .i64 (askS ss h) := hr 157 (by decide) (by apply Array.mem_toList_iff.1; repeat (first | exact List.Mem.head _ | apply List.Mem.tail))
          rw [Array.getD_eq_getD_getElem?] at e153
          rw [Array.getD_eq_getD_getElem?] at e157
          unfold Oper.wp
          simp only [execOp, Act.eval, Array.getD_eq_getD_getElem?, e153, e157]
          go_simp
          exact ⟨_, rfl, rfl, Jc D (fun t => D t ∨ 158 = t) w1 (by simp) (by simp) hj⟩
    · have CA := hide (CopyA T W1.heap.size ss wg P1.out)
      go_wp2_with fail
      clear y0 y2 y3
      refine CA.out.mono ?_
      rintro e wh ⟨T', rfl, hpa, hbh⟩
      have CB := hide (CopyB U W1.heap.size ss wh (P2.out.below hbh))
      have PN := hide hpa
      have HBH := hide hbh
      clear hpa hbh
      go_wp2_with fail
      refine CB.out.mono ?_
      rintro e wi ⟨U', rfl, hpb, hbi⟩
      have hgi := HBH.out.trans (hbi.mono HBH.out.size)
      have PNi := hide (PN.out.below hbi)
      have QNi := hide hpb
      have POi := hide (P1.out.below hgi)
      have LTi := hide (P1.out.lt_size.below P1.out.lt hgi)
      have y1i : wi.cell? ⟨wr.heap.size, 1, none⟩ = some (.int .i64 h) := (BX.out.below hgi BX.out.lt).cell 1
      have HBI := hide (HBG.out.trans (hgi.mono HBG.out.size))
      have FA := hide (FreeA T W1.heap.size ss h wi POi.out)
      have HSI := hide HBH.out.size
      clear hpb hbi hgi y1
      go_wp2_with fail
      refine FA.out.mono ?_
      rintro e wj ⟨rfl, hpj, hbj, hkj, huj⟩
      obtain ⟨hl2, hu2⟩ := huj _ LTi.out
      have PNj := hide (PNi.out.up hu2 hkj (by decide))
      have QNj := hide (QNi.out.keep hkj (by decide) (by decide) (by decide) (by decide))
      have LTj := hide hl2
      have HBJ := hide (HBI.out.trans hbj)
      have r0 : wj.cell? ⟨W.heap.size, 0, none⟩ = some (.string key) := (B1.out.below HBJ.out B1.out.lt).cell 0
      have r1 : wj.cell? ⟨W.heap.size, 1, none⟩ = some (.slice A row.length cap) := (B1.out.below HBJ.out B1.out.lt).cell 1
      have AD := hide (AddA T W1.heap.size _ key A cap row wj hpj (fun w' hb => HR.out.below (HBJ.out.trans hb)) (by have := HRL.out; omega))
      clear hpj hbj hkj huj hl2 hu2 y1i
      go_wp2_with fail
      refine AD.out.mono ?_
      rintro e wk ⟨rfl, _, hbk, hkk, huk⟩
      have P1k := hide ((PNj.out.up (huk _ LTj.out) hkk (by decide)).more HBG.out.size)
      have P2k := hide ((QNj.out.keep hkk (by decide) (by decide) (by decide) (by decide)).more (Nat.le_trans HBG.out.size HSI.out))
      have HBK := hide (HBJ.out.trans hbk)
      clear hbk hkk huk r0 r1
      obtain ⟨gU, cU, hcU⟩ := P2k.out.cell
      have MN := hide (fun (m : Nat) => (ManyA T' W1.heap.size ss (wk.drewN m) (P1k.out.below (below_drewN wk m))).mono fun _ _ hh => And.intro hh.1 hh.2.symm)
      obtain ⟨nn, hnn⟩ : ∃ x, (ss).length = x := ⟨_, rfl⟩
      rw [hnn] at hcU MN
      go_wp2_with fail
      go_quiet ((go_at_call 16; exact Calls.quiet_of_same (MN.out _)))
      go_wp2_with fail
      go_roundw
      case rel => exact ⟨k + 1, T', U', ss, by omega, by go_num, rfl, rfl, hide (P1k.out.below (below_drewN wk _)), hide (P2k.out.below (below_drewN wk _)), hide (HBK.out.trans ((below_drewN wk _).mono HBK.out.size))⟩
      case measure => simp [intOf]; omega
end Go.Proofs.Yteddfedeghchgaa.GroupPlaysW
