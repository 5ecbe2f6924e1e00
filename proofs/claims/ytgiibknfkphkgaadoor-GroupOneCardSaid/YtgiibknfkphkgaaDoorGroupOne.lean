/- The walk of the statement GroupOne: of any group, any numbers; without conditions. -/
import Derived.Test.YtgiibknfkphkgaaDoorRows
import Derived.Test.YtgiibknfkphkgaaDoorSpM
import Derived.Test.YtgiibknfkphkgaaDoorSpO
import Derived.Test.YtgiibknfkphkgaaDoorSpQ
import Derived.Test.YtgiibknfkphkgaaDoorQuietBelow
import Derived.LoopN
namespace Go.Proofs.YtgiibknfkphkgaaDoor.GroupOneW
open Go Go.Joins Go.ChangeShapes Go.WideShapes Go.RowKit Go.Deep Go.Proofs.YtgiibknfkphkgaaDoor Go.Proofs.YtgiibknfkphkgaaDoor.Grp Go.Proofs.YtgiibknfkphkgaaDoor.Sp
set_option linter.unusedVariables false
set_option linter.unusedSimpArgs false
set_option maxRecDepth 100000 in
set_option maxHeartbeats 8000000 in
theorem walk {H : Type} {enc : TypeId × Value → H} {base : Nat} (W : World) (hP : Pow W) (v0 : Value) (d0 : DataW H) (p0 : List MemPlace) (o0 : Value.okWide Tryd.prog W .any base 24 v0) (r0 : DataW.Trod enc Tryd.prog W 0 (fun _ => true) true 24 v0 d0 p0) (k : Int) (w1 : (Lit.int .i64 k).wf = true) (c : Int) (w2 : (Lit.int .i64 c).wf = true) (y : Int) (w3 : (Lit.int .i64 y).wf = true) :
    Calls Tryd.prog 6 #[v0, .int .i64 k, .int .i64 c, .int .i64 y] W fun e w' => e = .returned (.bool true) ∧ Below W.heap.size W w' := by
  obtain ⟨key, A, l, cap, rfl, hr⟩ := group_of o0 r0 (fun _ => rfl)
  have FK := hide (fit_wf w1)
  have FC := hide (fit_wf w2)
  clear o0 r0 w1 w2 w3
  have hb1 := (Below.refl W.heap.size W).alloc (Nat.le_refl _) (.cells #[.string key, .slice A l.length cap] 24)
  have b1 := Blk.new W 24 #[.string key, .slice A l.length cap]
  obtain ⟨W1, hW1⟩ : ∃ W1, W.alloc (.cells #[.string key, .slice A l.length cap] 24) = W1 := ⟨_, rfl⟩
  rw [hW1] at hb1 b1
  have AW := hide (awake_c W1 (hP.below hb1 (Nat.le_refl _)))
  have HN := hide (hr.below hb1)
  have HP := hide (hP.below hb1 (Nat.le_refl _))
  have HB1 := hide hb1
  have B1 := hide b1
  clear hb1 b1 hr hP
  go_enter Tryd.func6, Tryd.ntmps6
  go_wp2_with fail
  refine AW.out.mono ?_
  rintro e w2 ⟨rfl, hb2⟩
  have HB2 := hide hb2
  have b2 := B1.out.below hb2 B1.out.lt
  have q0 : w2.cell? ⟨W.heap.size, 0, none⟩ = some (.string key) := b2.cell 0
  have q1 : w2.cell? ⟨W.heap.size, 1, none⟩ = some (.slice A l.length cap) := b2.cell 1
  have GR := hide (Great_a key A l.length cap w2)
  clear hb2 b2 AW
  go_wp2_with fail
  refine GR.out.mono ?_
  rintro e w3 ⟨rfl, hb3⟩
  have HB3 := hide (HB2.out.trans (hb3.mono HB2.out.size))
  have b3 := B1.out.below HB3.out B1.out.lt
  have x0 : w3.cell? ⟨W.heap.size, 0, none⟩ = some (.string key) := b3.cell 0
  have x1 : w3.cell? ⟨W.heap.size, 1, none⟩ = some (.slice A l.length cap) := b3.cell 1
  clear hb3 b3 q0 q1 GR
  cases hg : gt key l.length with
  | true =>
    clear hg
    go_wp2_with fail
    go_ret
    exact ⟨rfl, HB1.out.trans (HB3.out.mono HB1.out.size)⟩
  | false =>
  have hrl : l.length ≤ 80 ∧ key.size ≤ 200 := by
    unfold gt at hg
    simp at hg
    omega
  have HRL := hide hrl
  have MC := hide (May_a key A cap l w3 (HN.out.below HB3.out) (by omega))
  clear hg hrl
  go_wp2_with fail
  refine MC.out.mono ?_
  rintro e w4 ⟨rfl, hb4⟩
  have HB4 := hide (HB3.out.trans (hb4.mono HB3.out.size))
  have b4 := B1.out.below HB4.out B1.out.lt
  have q0 : w4.cell? ⟨W.heap.size, 0, none⟩ = some (.string key) := b4.cell 0
  have q1 : w4.cell? ⟨W.heap.size, 1, none⟩ = some (.slice A l.length cap) := b4.cell 1
  clear hb4 b4 x0 x1 MC
  by_cases hmay : mayL l
  rotate_left
  · rw [decide_eq_false hmay]
    clear hmay
    go_wp2_with fail
    go_ret
    exact ⟨rfl, HB1.out.trans (HB4.out.mono HB1.out.size)⟩
  rw [decide_eq_true hmay]
  have HM := hide hmay
  by_cases hk0 : k < 0
  · clear hmay
    go_wp2_with fail
    go_ret
    exact ⟨rfl, HB1.out.trans (HB4.out.mono HB1.out.size)⟩
  have hk1 : 0 ≤ k := by omega
  have HK1 := hide hk1
  have hn80 := HRL.out.1
  clear hmay
  go_wp2_with fail
  clear q0 q1
  go_loopw [9, 10] (fun vq vi wr => ∃ (i : Nat) (V : Option Addr) (vc : Nat), i ≤ l.length ∧ vi = .int .i64 i ∧ vq = .slice V i vc ∧ Hid (wr.ownsRow w4.heap.size 40 2 (.slice V i vc) i (Sp.aqC (List.replicate i (c, y)))) ∧ Hid (Below w4.heap.size w4 wr)) (fun _ vi _ => l.length - (RowKit.intOf vi).toNat)
  case atStart => exact ⟨0, none, 0, Nat.zero_le _, rfl, rfl, hide ⟨rfl, .inl ⟨rfl, rfl⟩⟩, hide (Below.refl _ _)⟩
  case round =>
    obtain ⟨i, V, vc, hi, rfl, rfl, OW, HB⟩ := hrel
    rename World => wr
    have HBr := hide (HB4.out.trans (HB.out.mono HB4.out.size))
    have br := B1.out.below HBr.out B1.out.lt
    have q0 : wr.cell? ⟨W.heap.size, 0, none⟩ = some (.string key) := br.cell 0
    have q1 : wr.cell? ⟨W.heap.size, 1, none⟩ = some (.slice A l.length cap) := br.cell 1
    clear br
    by_cases hlt : i < l.length
    · have hltI : (i : Int) < (l.length : Int) := by omega
      obtain ⟨A1, c1, w9, hrun, hown, hbel⟩ := push_ask wr w4.heap.size V vc i (List.replicate i (c, y)) c y (by simp) OW.out HB.out.size (by omega)
      have OW9 : Hid (w9.ownsRow w4.heap.size 40 2 (.slice A1 (i + 1) c1) (i + 1) (Sp.aqC (List.replicate (i + 1) (c, y)))) := hide (by rw [List.replicate_succ']; exact hown)
      have HB9 := hide (HB.out.trans hbel)
      have RUN := hide hrun
      clear hown hbel hrun
      go_wp2_with (at_builtin; refine Lib.wpList_append_run _ rfl _ _ 25 25 rfl _ _ rfl rfl _ _ RUN.out ?_)
      go_roundw
      case rel => exact ⟨i + 1, A1, c1, by omega, by go_num, rfl, OW9, HB9⟩
      case measure => simp [RowKit.intOf] <;> omega
    have hltI : ¬ (i : Int) < (l.length : Int) := by omega
    obtain rfl : i = l.length := by omega
    have hask : AskR wr V (List.replicate l.length (c, y)) := by
      have := Reads.of_own OW.out
      unfold AskR
      rw [List.length_replicate]
      exact this
    have SC : Hid (Calls Tryd.prog 13 #[.agg #[.string key, .slice A l.length cap], .int .i64 k, .slice V l.length vc] wr (splitPost key l k (List.replicate l.length (c, y)) wr)) := hide (by
      have := Split_c key A cap l k V vc (List.replicate l.length (c, y)) wr (HN.out.below HBr.out) hask (by omega) (by rw [List.length_replicate]; omega) (HP.out.below HBr.out (Nat.le_refl _)) (by have := HRL.out.2; omega) FK.out.2 (fun x hx => by rw [List.eq_of_mem_replicate hx]; exact FC.out.2)
      rwa [List.length_replicate] at this)
    clear hask hlt hltI hi
    go_wp2_with fail
    refine SC.out.mono ?_
    rintro e w5 ⟨h5, hb5⟩
    obtain ⟨_, L', O, oc, gs, B0, rfl, hperm, hsrt, hgs, hout, hB0⟩ := h5.resolve_left (fun h => by
      rcases h.1 with h | h | h
      · exact h HM.out
      · have := HK1.out; omega
      · exact h (by rw [List.length_replicate]))
    have HGS := hide hgs
    have HPERM := hide hperm
    have HSRT := hide hsrt
    have HOUT := hide hout
    have HB5 := hide (HBr.out.trans (hb5.mono HBr.out.size))
    have b5 := B1.out.below HB5.out B1.out.lt
    have x0 : w5.cell? ⟨W.heap.size, 0, none⟩ = some (.string key) := b5.cell 0
    have x1 : w5.cell? ⟨W.heap.size, 1, none⟩ = some (.slice A l.length cap) := b5.cell 1
    have DC := hide (Dup_c key A cap l k w5 (HN.out.below HB5.out) (by omega) (HP.out.below HB5.out (Nat.le_refl _)) (by have := HRL.out.2; omega) FK.out.2)
    clear h5 hb5 hperm hsrt hgs hout hB0 b5 q0 q1 SC OW
    go_wp2_with fail
    refine DC.out.mono ?_
    rintro e w6 ⟨h6, hb6⟩
    obtain ⟨_, g6, rfl, hg6, hgb6⟩ := h6.resolve_left (fun h => by
      rcases h.1 with h | h
      · exact h HM.out
      · have := HK1.out; omega)
    obtain ⟨hbk, hbx⟩ := box2 w6 24 (.string ⟨#[]⟩) (.slice none 0 0) (.string (behindS key k)) (.slice (some ⟨g6, 0, none⟩) l.length l.length)
    have bz := Blk.new w6 24 #[.string ⟨#[]⟩, .slice none 0 0]
    obtain ⟨Wc, hWc⟩ : ∃ x, w6.alloc (.cells #[.string ⟨#[]⟩, .slice none 0 0] 24) = x := ⟨_, rfl⟩
    rw [hWc] at hbk hbx bz
    have y0 : Wc.cell? ⟨w6.heap.size, 0, none⟩ = some (.string ⟨#[]⟩) := bz.cell 0
    have y1 : Wc.cell? ⟨w6.heap.size, 1, none⟩ = some (.slice none 0 0) := bz.cell 1
    have e0 := bz.frozen 0
    have e1 := bz.frozen 1
    obtain ⟨w7, hw7⟩ : ∃ x, (Wc.setCell ⟨w6.heap.size, 0, none⟩ (.string (behindS key k))).setCell ⟨w6.heap.size, 1, none⟩ (.slice (some ⟨g6, 0, none⟩) l.length l.length) = x := ⟨_, rfl⟩
    rw [hw7] at hbk hbx
    have d1 : w7.cell? ⟨w6.heap.size, 1, none⟩ = some (.slice (some ⟨g6, 0, none⟩) l.length l.length) := hbk.cell 1
    have hb57 := hb6.trans (hbx.mono hb6.size)
    have HOUT7 := hide (HOUT.out.below hb57)
    have HB7 := hide (HB5.out.trans (hb57.mono HB5.out.size))
    have b7 := B1.out.below HB7.out B1.out.lt
    have q1 : w7.cell? ⟨W.heap.size, 1, none⟩ = some (.slice A l.length cap) := b7.cell 1
    have IC : Hid (Calls Tryd.prog 20 #[.slice (some ⟨g6, 0, none⟩) l.length l.length, .slice A l.length cap] w7 fun e w' => e = .returned (.bool true) ∧ Below w7.heap.size w7 w') := hide ((Ints_b (some ⟨g6, 0, none⟩) A l.length cap l l w7 (blk_nrow (hgb6.below hbx hgb6.lt)) (HN.out.below HB7.out) (by omega) (by omega)).mono fun e w' h => by simpa using h)
    clear hbk hbx bz hb6 hb57 b7 h6 hgb6 DC x0 x1 HOUT
    go_wp2_with fail
    refine IC.out.mono ?_
    rintro e w8 ⟨rfl, hb8⟩
    have HOUT8 := hide (HOUT7.out.below hb8)
    have HB8 := hide (HB7.out.trans (hb8.mono HB7.out.size))
    clear hb8 IC q1 d1 y0 y1 e0 e1
    by_cases hc0 : c < 0
    · have hL := one_none hc0 HPERM.out
      have hg0 : gs = [] := by
        have := HGS.out
        rw [hL] at this
        exact List.map_eq_nil_iff.1 this
      subst hg0
      clear hL
      go_wp2_with fail
      go_ret
      exact ⟨rfl, HB1.out.trans (HB8.out.mono HB1.out.size)⟩
    have hg1 : gs.map Gw.p = [(c, l)] := HGS.out.trans (one_all (by have := HM.out.1; omega) (by omega) HPERM.out HSRT.out)
    obtain ⟨x, rfl⟩ : ∃ x, gs = [x] := by
      match gs, hg1 with
      | [x], _ => exact ⟨x, rfl⟩
    obtain ⟨xc, xA, xk, xr⟩ := x
    have hxr : xr = l := by
      have h : [(xc, xr)] = [(c, l)] := hg1
      simp at h
      exact h.2
    subst hxr
    obtain ⟨o, hO, _, _, ⟨cso, hOb⟩, _, _, hOc⟩ := own_cell HOUT8.out.row (by show 0 < 1; omega)
    subst hO
    have oc1 : w8.cell? ⟨o, 1, none⟩ = some (.slice xA xr.length xk) := hOc 1 _ rfl
    have hxn : NRow w8 xA xr := own_nrow (HOUT8.out.rs 0 (by show 0 < 1; omega))
    have b8 := B1.out.below HB8.out B1.out.lt
    have NE : Nonempty (BelowOf w8) := ⟨⟨w8, Below.refl _ _⟩⟩
    have u0 : ∀ p : BelowOf w8, p.world.cell? ⟨o, 1, none⟩ = some (.slice xA xr.length xk) := fun p => p.cell hOb.lt oc1
    have u1 : ∀ p : BelowOf w8, p.world.cell? ⟨W.heap.size, 1, none⟩ = some (.slice A xr.length cap) := fun p => p.cell b8.lt (b8.cell 1)
    have IC : Hid (∀ p : BelowOf w8, Calls Tryd.prog 20 #[.slice xA xr.length xk, .slice A xr.length cap] p.world fun e w' => e = .returned (.bool true) ∧ Below p.world.heap.size p.world w') := hide (fun p => (Ints_b xA A xk cap xr xr p.world (hxn.below p.below) ((HN.out.below HB8.out).below p.below) (by omega) (by omega)).mono fun e w' h => by simpa using h)
    clear hg1 hOb hOc oc1 hxn b8
    go_wp2_with fail
    refine wp_region_quiet_below (by kernel_rfl) (by kernel_rfl) ?_
    repeat (go_big_quiet_step (first
      | (go_at_call 20; exact calls_below (IC.out _))))
    refine wpQuiet_nil ?_
    rintro Wq ⟨⟨_, hq⟩, rfl⟩
    have HQ := hide (HB8.out.trans (hq.mono HB8.out.size))
    clear hq
    go_wp2_with fail
    go_ret
    exact ⟨rfl, HB1.out.trans (HQ.out.mono HB1.out.size)⟩
end Go.Proofs.YtgiibknfkphkgaaDoor.GroupOneW
