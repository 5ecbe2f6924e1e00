/- The reference's Steps. -/
import Derived.Test.YtobccgjonpcpgaaRows
import Derived.Test.YtobccgjonpcpgaaPathG
import Derived.Test.YtobccgjonpcpgaaPathJ
import Derived.Test.YtobccgjonpcpgaaPathM
import Derived.Test.YtobccgjonpcpgaaPathO
import Derived.Deep.RegionWith
import Derived.BigRegion
namespace Go.Proofs.Ytobccgjonpcpgaa
open Go Go.RowKit
set_option linter.unusedVariables false
set_option linter.unusedSimpArgs false
namespace Pth
set_option maxRecDepth 100000 in
set_option maxHeartbeats 8000000 in
theorem Steps_b (U B : Nat) (ls : List Lv) (w : World) (ht : StB w U B ls) (hf : ∀ x ∈ ls, x.fit) :
    Calls Try.prog 18 #[.pointer (some ⟨U, 0, none⟩)] w fun e w' => ∃ v, e = .returned v ∧ w'.ownsRow w.heap.size 49 8 v ls.length (spCs (stepsOf ls)) ∧ Below w.heap.size w w' := by
  have HT := hide ht
  have HF := hide hf
  have HLE := hide ht.le
  clear ht hf
  go_enter Try.func18, Try.ntmps18
  go_wp2_with fail
  go_loopw [3, 4] (fun vn vi wr => ∃ (k : Nat), k ≤ ls.length ∧ vi = .int .i64 k ∧ Hid (wr.ownsRow w.heap.size 49 8 vn k (spCs (stepsOf (ls.take k)))) ∧ Hid (Below w.heap.size w wr)) (fun _ vi _ => ls.length - (intOf vi).toNat)
  case atStart => exact ⟨0, by omega, rfl, hide ⟨rfl, .inl ⟨rfl, rfl⟩⟩, hide (Below.refl _ _)⟩
  case round =>
    obtain ⟨k, hk, rfl, HO, HB⟩ := hrel
    obtain ⟨A, c, A2, c2, A3, c3, hbU, o1, o2, o3, hcc⟩ := (HT.out.below HB.out).open_
    have u0 : wr.cell? ⟨U, 0, none⟩ = some (.slice A ls.length c) := hbU.cell 0
    have u1 : wr.cell? ⟨U, 1, none⟩ = some (.slice A2 ls.length c2) := hbU.cell 1
    have u2 : wr.cell? ⟨U, 2, none⟩ = some (.slice A3 ls.length c3) := hbU.cell 2
    by_cases hlt : k < ls.length
    · have hltI : (k : Int) < (ls.length : Int) := by omega
      have hle := HLE.out
      obtain ⟨g, g2, g3, rfl, rfl, rfl, p0, p1, p2, p3, p4, f4⟩ := hcc k hlt
      obtain ⟨av, ca, rfl⟩ := own_form HO.out
      have HV : Hid (VRow wr ls[k].A ls[k].vs) := hide ((HT.out.below HB.out).rows k hlt)
      have HTS := hide (show spCs (stepsOf (ls.take (k + 1))) = spCs (stepsOf (ls.take k)) ++ spC (stepOf ls[k].r ls[k].c ls[k].vs ls[k].at_) by rw [stepsOf_take ls k hlt, spCs_app]; simp [spCs])
      have hfit := HF.out _ (List.getElem_mem hlt)
      generalize ls[k] = x at *
      obtain ⟨r, cc, A', cap, vs, off, at_⟩ := x
      obtain ⟨h0, h1, h2⟩ := hfit
      have hat : at_ ≤ vs.length := by
        unfold many at h2
        simp only at h2
        split at h2 <;> omega
      simp only at p0 p1 p2 p3 p4 h0 h1 HV HTS
      have hbz := (Below.refl wr.heap.size wr).alloc (Nat.le_refl _) (.cells #[.bool false, .int .i64 0, .int .i64 0, .int .i64 0, .int .i64 0, .int .i64 0, .int .i64 0, .int .i64 0] 49)
      have hzb := Blk.new wr 49 #[.bool false, .int .i64 0, .int .i64 0, .int .i64 0, .int .i64 0, .int .i64 0, .int .i64 0, .int .i64 0]
      have e0 := (hbz.cell (p := ⟨U, 0, none⟩) hbU.lt).trans u0
      have e1 := (hbz.cell (p := ⟨g, k * 3, none⟩) (block_lt_of_cell p0)).trans p0
      have e2 := (hbz.cell (p := ⟨g, k * 3 + 1, none⟩) (block_lt_of_cell p1)).trans p1
      have z0 := hzb.cell 0
      have z1 := hzb.cell 1
      have z2 := hzb.cell 2
      have z3 := hzb.cell 3
      have z4 := hzb.cell 4
      have z5 := hzb.cell 5
      have z6 := hzb.cell 6
      have z7 := hzb.cell 7
      have zf := hzb.frozen 0
      have hbv := (Below.refl wr.heap.size wr).alloc (Nat.le_refl _) (.cells #[.bool false, .int .i64 r, .int .i64 cc, .int .i64 0, .int .i64 0, .int .i64 0, .int .i64 0, .int .i64 0] 49)
      have hvb := Blk.new wr 49 #[.bool false, .int .i64 r, .int .i64 cc, .int .i64 0, .int .i64 0, .int .i64 0, .int .i64 0, .int .i64 0]
      obtain ⟨V, hV⟩ : ∃ x, wr.alloc (.cells #[.bool false, .int .i64 r, .int .i64 cc, .int .i64 0, .int .i64 0, .int .i64 0, .int .i64 0, .int .i64 0] 49) = x := ⟨_, rfl⟩
      rw [hV] at hbv hvb
      have V0 := (hbv.cell (p := ⟨U, 0, none⟩) hbU.lt).trans u0
      have V2 := (hbv.cell (p := ⟨U, 2, none⟩) hbU.lt).trans u2
      have V3 := (hbv.cell (p := ⟨g, k * 3 + 2, none⟩) (block_lt_of_cell p2)).trans p2
      have V4 := (hbv.cell (p := ⟨g3, k, none⟩) (block_lt_of_cell p4)).trans p4
      have HVV : Hid (VRow V A' vs) := hide (HV.out.keep fun g' hg' => hbv.block g' (HV.out.lt hg'))
      have HBV := hide (And.intro hbv hvb)
      have HOV := hide (own_belowR HO.out hbv)
      have HWR := hide HB.out.size
      have LOW : Hid (∀ j, (Value.slice av k ca).ownBlock = some j → j < wr.heap.size) := hide fun j e => (own_block HO.out e).2.1
      have HVE := hide hV
      clear h2 hbU o1 o2 o3 hcc hbv hvb hV
      go_wp2_with fail
      go_region
      rw [HVE.out]
      clear z0 z1 z2 z3 z4 z5 z6 z7 zf e0 e1 e2 u0 u1 u2 p0 p1 p2 p3 p4 f4 HVE hbz hzb
      have n0 := HBV.out.2.cell 0
      have n1 := HBV.out.2.cell 1
      have n2 := HBV.out.2.cell 2
      have n3 := HBV.out.2.cell 3
      have n4 := HBV.out.2.cell 4
      have n5 := HBV.out.2.cell 5
      have n6 := HBV.out.2.cell 6
      have n7 := HBV.out.2.cell 7
      have nf := HBV.out.2.frozen 0
      have nf3 := HBV.out.2.frozen 3
      have hzlt : wr.heap.size < V.heap.size := HBV.out.2.lt
      generalize wr.heap.size = s at *
      by_cases he : at_ = vs.length
      · have heI : ¬ (at_ : Int) < (vs.length : Int) := by omega
        go_wp2_with fail
        have hs0 : ∀ m, Below w.heap.size w ((V.drewN m).setCell ⟨s, 0, none⟩ (.bool true)) := fun m => ((HB.out.trans (HBV.out.1.mono HWR.out)).trans (below_drewN (Below.refl _ _) m)).setCell (p := ⟨s, 0, none⟩) HWR.out _
        have hs1 : ∀ m, ((V.drewN m).setCell ⟨s, 0, none⟩ (.bool true)).ownsRow w.heap.size 49 8 (.slice av k ca) k (spCs (stepsOf (ls.take k))) := fun m => own_setCell (own_belowR HOV.out (below_drewN (Below.refl V.heap.size V) m)) (p := ⟨s, 0, none⟩) (fun e => Nat.lt_irrefl _ (LOW.out _ e)) _
        have HS := hide (And.intro hs0 hs1)
        have E : stepOf r cc vs at_ = ⟨true, r, cc, ⟨0, 0, 0, 0, 0⟩⟩ := by unfold stepOf; rw [if_pos he]
        rw [E] at HTS
        clear hs0 hs1 E
        go_quiet (fail)
        have hbs := HS.out.1 (1 + nq)
        obtain ⟨v11, w11, hrun, hown, hbw⟩ := app_sp ⟨true, r, cc, ⟨0, 0, 0, 0, 0⟩⟩ w.heap.size k ca av _ _ (HS.out.2 (1 + nq)) hbs.size (by omega)
        rw [← HTS.out] at hown
        have HOW := hide hown
        have HBW := hide (hbs.trans hbw)
        clear hown hbs hbw
        simp only at hrun
        rw [show ((V.drewN (1 + nq)).setCell ⟨s, 0, none⟩ (.bool true)).heap.size = V.heap.size from by simp [World.setCell, World.drewN]] at hrun
        clear V0 V2 V3 V4 nf3
        go_wp2_with (at_builtin; refine Lib.wpList_append_run _ rfl (.tmp 68) (.tmp 70) _ _ rfl _ _ rfl rfl _ w11 hrun ?_)
        go_roundw
        case rel => exact ⟨k + 1, by omega, by first | trivial | go_num, HOW, HBW⟩
        case measure => simp [intOf]; omega
      · have heI : (at_ : Int) < (vs.length : Int) := by omega
        have hel : at_ < vs.length := by omega
        obtain ⟨p, rfl, hp, hok, c0, c1, c2, c3, c4⟩ := (HVV.out.crow (by omega)).at_ hel
        have E : stepOf r cc vs at_ = ⟨false, r, cc, vs[at_]⟩ := by unfold stepOf; rw [if_neg he]; simp [hel]
        rw [E] at HTS
        generalize vs[at_] = x at *
        obtain ⟨x0, x1, x2, x3, x4⟩ := x
        simp only at c0 c1 c2 c3 c4 HTS
        clear E hok
        have hs0 : ∀ m, Below w.heap.size w ((((((V.drewN m).setCell ⟨s, 3, none⟩ (.int .i64 x0)).setCell ⟨s, 4, none⟩ (.int .i64 x1)).setCell ⟨s, 5, none⟩ (.int .i64 x2)).setCell ⟨s, 6, none⟩ (.int .i64 x3)).setCell ⟨s, 7, none⟩ (.int .i64 x4)) := fun m => (((((((HB.out.trans (HBV.out.1.mono HWR.out)).trans (below_drewN (Below.refl _ _) m)).setCell (p := ⟨s, 3, none⟩) HWR.out _).setCell (p := ⟨s, 4, none⟩) HWR.out _).setCell (p := ⟨s, 5, none⟩) HWR.out _).setCell (p := ⟨s, 6, none⟩) HWR.out _).setCell (p := ⟨s, 7, none⟩) HWR.out _)
        have hs1 : ∀ m, ((((((V.drewN m).setCell ⟨s, 3, none⟩ (.int .i64 x0)).setCell ⟨s, 4, none⟩ (.int .i64 x1)).setCell ⟨s, 5, none⟩ (.int .i64 x2)).setCell ⟨s, 6, none⟩ (.int .i64 x3)).setCell ⟨s, 7, none⟩ (.int .i64 x4)).ownsRow w.heap.size 49 8 (.slice av k ca) k (spCs (stepsOf (ls.take k))) := fun m => own_setCell (own_setCell (own_setCell (own_setCell (own_setCell (own_belowR HOV.out (below_drewN (Below.refl V.heap.size V) m)) (p := ⟨s, 3, none⟩) (fun e => Nat.lt_irrefl _ (LOW.out _ e)) _) (p := ⟨s, 4, none⟩) (fun e => Nat.lt_irrefl _ (LOW.out _ e)) _) (p := ⟨s, 5, none⟩) (fun e => Nat.lt_irrefl _ (LOW.out _ e)) _) (p := ⟨s, 6, none⟩) (fun e => Nat.lt_irrefl _ (LOW.out _ e)) _) (p := ⟨s, 7, none⟩) (fun e => Nat.lt_irrefl _ (LOW.out _ e)) _
        have HS := hide (And.intro hs0 hs1)
        clear hs0 hs1
        have nf4 := HBV.out.2.frozen 4
        have nf5 := HBV.out.2.frozen 5
        have nf6 := HBV.out.2.frozen 6
        have nf7 := HBV.out.2.frozen 7
        go_wp2_with fail
        go_quiet (fail)
        go_wp2_with fail
        go_region
        have hbs := HS.out.1 (1 + nq + 1)
        obtain ⟨v11, w11, hrun, hown, hbw⟩ := app_sp ⟨false, r, cc, ⟨x0, x1, x2, x3, x4⟩⟩ w.heap.size k ca av _ _ (HS.out.2 (1 + nq + 1)) hbs.size (by omega)
        rw [← HTS.out] at hown
        have HOW := hide hown
        have HBW := hide (hbs.trans hbw)
        clear hown hbs hbw
        simp only at hrun
        rw [show ((((((V.drewN (1 + nq + 1)).setCell ⟨s, 3, none⟩ (.int .i64 x0)).setCell ⟨s, 4, none⟩ (.int .i64 x1)).setCell ⟨s, 5, none⟩ (.int .i64 x2)).setCell ⟨s, 6, none⟩ (.int .i64 x3)).setCell ⟨s, 7, none⟩ (.int .i64 x4)).heap.size = V.heap.size from by simp [World.setCell, World.drewN]] at hrun
        clear V0 V2 V3 V4 nf nf3 nf4 nf5 nf6 nf7
        go_wp2_with (at_builtin; refine Lib.wpList_append_run _ rfl (.tmp 68) (.tmp 70) _ _ rfl _ _ rfl rfl _ w11 hrun ?_)
        go_roundw
        case rel => exact ⟨k + 1, by omega, by first | trivial | go_num, HOW, HBW⟩
        case measure => simp [intOf]; omega
    · have hk2 : k = ls.length := by omega
      have hltI : ¬ (k : Int) < (ls.length : Int) := by omega
      have HO2 := HO.out
      rw [hk2, List.take_length] at HO2
      have HO2 := hide HO2
      clear hk2 hcc o1 o2 o3
      go_wp2_with fail
      go_ret
      exact ⟨_, rfl, HO2.out, HB.out⟩
end Pth
end Go.Proofs.Ytobccgjonpcpgaa
