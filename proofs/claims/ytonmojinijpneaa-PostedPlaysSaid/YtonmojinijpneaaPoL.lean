/- Messages that rivals leave: filter. -/
import Derived.Test.YtonmojinijpneaaRows
import Derived.Test.YtonmojinijpneaaPoK
namespace Go.Proofs.Ytonmojinijpneaa
open Go Go.RowKit Go.Lib Go.Proofs.Ytonmojinijpneaa.Qu
set_option linter.unusedVariables false
set_option linter.unusedSimpArgs false
namespace Po
def flt (ah : List Rc) (l : List Msg) : List Msg := l.filter (leaveB ah)
theorem flt_app (ah : List Rc) (a b : List Msg) : flt ah (a ++ b) = flt ah a ++ flt ah b := by simp [flt]
theorem flt_len (ah : List Rc) (a : List Msg) : (flt ah a).length ≤ a.length := List.length_filter_le _ _
set_option maxRecDepth 100000 in
set_option maxHeartbeats 16000000 in
theorem filterM_c {w : World} (A : Option Addr) (cap n : Nat) (r : List Msg) (h : MRow w A r) (hn : r.length = n) (hl : n ≤ 1000) (RA : Option Addr) (rcap rn : Nat) (ah : List Rc) (hra : RRow w RA ah) (hrn : ah.length = rn) (hrl : rn ≤ 100000) :
    Calls Try.prog 80 #[.slice A n cap, .func (.func 81) #[.slice RA rn rcap] #[]] w fun e w' => ∃ A1 c1, e = .returned (.slice A1 (flt ah r).length c1) ∧ w'.ownsRow w.heap.size 33 8 (.slice A1 (flt ah r).length c1) (flt ah r).length (msgCs (flt ah r)) ∧ Below w.heap.size w w' := by
  have HR := hide h
  have HRA := hide hra
  have HN := hide hn
  have OW0 := hide (show w.ownsRow w.heap.size 33 8 (.slice none 0 0) 0 (msgCs (flt ah (r.take 0))) from ⟨rfl, .inl ⟨rfl, rfl⟩⟩)
  have HB0 := hide (Below.refl w.heap.size w)
  clear h hn hra
  go_enter Try.func80, Try.ntmps80
  go_wp2_with fail
  go_loopw [5, 7, 10] (fun v3 _ v8 wr => ∃ (j : Nat) (A1 : Option Addr) (c1 : Nat), j ≤ n ∧ v8 = .int .i64 j ∧ v3 = .slice A1 (flt ah (r.take j)).length c1 ∧ Hid (wr.ownsRow w.heap.size 33 8 (.slice A1 (flt ah (r.take j)).length c1) (flt ah (r.take j)).length (msgCs (flt ah (r.take j)))) ∧ Hid (Below w.heap.size w wr)) (fun _ _ v8 _ => n - (RowKit.intOf v8).toNat)
  case atStart => exact ⟨0, none, 0, Nat.zero_le _, rfl, rfl, OW0, HB0⟩
  case round =>
    obtain ⟨j, A1, c1, hj, rfl, rfl, HOW, HBR⟩ := hrel
    rename World => wr
    by_cases hlt : j < n
    rotate_left
    · have hltI : ¬ (j : Int) < (n : Int) := by omega
      obtain rfl : n = j := by omega
      go_wp2_with fail
      go_ret
      have e : r.take n = r := by rw [← HN.out, List.take_length]
      have h1 := HOW.out
      rw [e] at h1
      exact ⟨A1, c1, by rw [e]; rfl, h1, HBR.out⟩
    have hltI : (j : Int) < (n : Int) := by omega
    obtain ⟨⟨mk, mf, mt, mc, mg, mv, mz, mb⟩, hm⟩ : ∃ m, r[j]? = some m := ⟨_, List.getElem?_eq_getElem (by rw [HN.out]; exact hlt)⟩
    obtain ⟨g, rfl, hg, hit⟩ := (HR.out.below HBR.out).it j _ hm
    have n0 : wr.cell? ⟨g, j * 8, none⟩ = some (.string mk) := hit 0 _ rfl
    have n1 : wr.cell? ⟨g, j * 8 + 1, none⟩ = some (.int .i64 mf) := hit 1 _ rfl
    have n2 : wr.cell? ⟨g, j * 8 + 2, none⟩ = some (.int .i64 mt) := hit 2 _ rfl
    have n3 : wr.cell? ⟨g, j * 8 + 3, none⟩ = some (.int .i64 mc) := hit 3 _ rfl
    have n4 : wr.cell? ⟨g, j * 8 + 4, none⟩ = some (.int .i64 mg) := hit 4 _ rfl
    have n5 : wr.cell? ⟨g, j * 8 + 5, none⟩ = some (.int .i64 mv) := hit 5 _ rfl
    have n6 : wr.cell? ⟨g, j * 8 + 6, none⟩ = some (.int .i64 mz) := hit 6 _ rfl
    have n7 : wr.cell? ⟨g, j * 8 + 7, none⟩ = some (.bool mb) := hit 7 _ rfl
    have HM := hide hm
    have HLT := hide hlt
    have by_ := (Below.refl wr.heap.size wr).alloc (Nat.le_refl _) (.cells #[.string mk, .int .i64 mf, .int .i64 mt, .int .i64 mc, .int .i64 mg, .int .i64 mv, .int .i64 mz, .bool mb] 33)
    have ky := Blk.new wr 33 #[.string mk, .int .i64 mf, .int .i64 mt, .int .i64 mc, .int .i64 mg, .int .i64 mv, .int .i64 mz, .bool mb]
    obtain ⟨ws, hws⟩ : ∃ z, wr.alloc (.cells #[.string mk, .int .i64 mf, .int .i64 mt, .int .i64 mc, .int .i64 mg, .int .i64 mv, .int .i64 mz, .bool mb] 33) = z := ⟨_, rfl⟩
    obtain ⟨Y, hY⟩ : ∃ z, wr.heap.size = z := ⟨_, rfl⟩
    rw [hws] at by_ ky
    rw [hY] at ky
    have HBS := hide (HBR.out.trans (by_.mono HBR.out.size))
    have OWS := hide (own_belowR HOW.out by_)
    have HWS := hide hws
    have HY := hide hY
    have KY := hide ky
    have HTS := hide (show r.take (j + 1) = r.take j ++ [⟨mk, mf, mt, mc, mg, mv, mz, mb⟩] by
      obtain ⟨hl1, he1⟩ := List.getElem?_eq_some_iff.1 HM.out
      rw [List.take_succ_eq_append_getElem hl1, he1])
    have hul := flt_len ah (r.take j)
    have HUL := hide (show (flt ah (r.take j)).length ≤ 1000 by rw [List.length_take] at hul; omega)
    clear hit hm by_ ky hws hY hg hlt hul
    go_upto_region 5 with (fail)
    rw [HWS.out, HY.out]
    clear HWS HY n0 n1 n2 n3 n4 n5 n6 n7
    have y0 : ws.cell? ⟨Y, 0, none⟩ = some (.string mk) := KY.out.cell 0
    have y1 : ws.cell? ⟨Y, 1, none⟩ = some (.int .i64 mf) := KY.out.cell 1
    have y2 : ws.cell? ⟨Y, 2, none⟩ = some (.int .i64 mt) := KY.out.cell 2
    have y3 : ws.cell? ⟨Y, 3, none⟩ = some (.int .i64 mc) := KY.out.cell 3
    have y4 : ws.cell? ⟨Y, 4, none⟩ = some (.int .i64 mg) := KY.out.cell 4
    have y5 : ws.cell? ⟨Y, 5, none⟩ = some (.int .i64 mv) := KY.out.cell 5
    have y6 : ws.cell? ⟨Y, 6, none⟩ = some (.int .i64 mz) := KY.out.cell 6
    have y7 : ws.cell? ⟨Y, 7, none⟩ = some (.bool mb) := KY.out.cell 7
    obtain ⟨pb, hpb⟩ : ∃ b, leaveB ah ⟨mk, mf, mt, mc, mg, mv, mz, mb⟩ = b := ⟨_, rfl⟩
    have LC : Hid (Calls Try.prog 81 #[.slice RA rn rcap, .agg #[.string mk, .int .i64 mf, .int .i64 mt, .int .i64 mc, .int .i64 mg, .int .i64 mv, .int .i64 mz, .bool mb]] ws fun e w' => e = .returned (.bool pb) ∧ Below ws.heap.size ws w') := hide (by
      have h := leave_c ws RA rcap rn ah (HRA.out.below HBS.out) hrn hrl mk mf mt mc mg mv mz mb
      rwa [hpb] at h)
    have HPB := hide hpb
    clear hpb
    cases pb with
    | false =>
      have HU : Hid (flt ah (r.take (j + 1)) = flt ah (r.take j)) := hide (by rw [HTS.out, flt_app]; simp [flt, HPB.out])
      go_wp2_with (go_at_call 81; refine LC.out.mono ?_; rintro e wt ⟨rfl, hbt⟩)
      have HBT := hide (HBS.out.trans (hbt.mono HBS.out.size))
      have OWT := hide (own_belowR OWS.out hbt)
      clear hbt
      go_roundw
      case rel => exact ⟨j + 1, A1, c1, HLT.out, by go_num, by rw [HU.out], by rw [HU.out]; exact OWT, HBT⟩
      case measure => have := HLT.out; simp [RowKit.intOf] <;> omega
    | true =>
      have HU : Hid (flt ah (r.take (j + 1)) = flt ah (r.take j) ++ [⟨mk, mf, mt, mc, mg, mv, mz, mb⟩]) := hide (by rw [HTS.out, flt_app]; simp [flt, HPB.out])
      go_wp2_with fail
      refine LC.out.mono ?_
      rintro e wt ⟨rfl, hbt⟩
      have kyt := KY.out.below hbt KY.out.lt
      have z0 : wt.cell? ⟨Y, 0, none⟩ = some (.string mk) := kyt.cell 0
      have z1 : wt.cell? ⟨Y, 1, none⟩ = some (.int .i64 mf) := kyt.cell 1
      have z2 : wt.cell? ⟨Y, 2, none⟩ = some (.int .i64 mt) := kyt.cell 2
      have z3 : wt.cell? ⟨Y, 3, none⟩ = some (.int .i64 mc) := kyt.cell 3
      have z4 : wt.cell? ⟨Y, 4, none⟩ = some (.int .i64 mg) := kyt.cell 4
      have z5 : wt.cell? ⟨Y, 5, none⟩ = some (.int .i64 mv) := kyt.cell 5
      have z6 : wt.cell? ⟨Y, 6, none⟩ = some (.int .i64 mz) := kyt.cell 6
      have z7 : wt.cell? ⟨Y, 7, none⟩ = some (.bool mb) := kyt.cell 7
      have HBT := hide (HBS.out.trans (hbt.mono HBS.out.size))
      have OWT := hide (own_belowR OWS.out hbt)
      clear hbt kyt y0 y1 y2 y3 y4 y5 y6 y7
      obtain ⟨A2, c2, w2, hrun, hown, hgr, _⟩ := push_m wt w.heap.size A1 c1 _ _ ⟨mk, mf, mt, mc, mg, mv, mz, mb⟩ OWT.out HBT.out.size (by have := HUL.out; omega)
      have HB2 := hide (HBT.out.grown hgr HBT.out.size fun k e => (own_block OWT.out e).1)
      have HLN := hide (show (flt ah (r.take (j + 1))).length = (flt ah (r.take j)).length + 1 by rw [HU.out]; simp)
      have OW2 := hide (show w2.ownsRow w.heap.size 33 8 (.slice A2 ((flt ah (r.take j)).length + 1) c2) ((flt ah (r.take j)).length + 1) (msgCs (flt ah (r.take (j + 1)))) by
        rw [HU.out, msgCs_app]
        simpa [msgCs] using hown)
      have RUN := hide hrun
      clear hrun hown hgr
      go_wp2_with (at_builtin; refine Lib.wpList_append_run _ rfl _ _ 45 45 rfl _ _ rfl rfl _ _ RUN.out ?_)
      go_roundw
      case rel => exact ⟨j + 1, A2, c2, HLT.out, by go_num, by rw [HLN.out], by rw [HLN.out]; exact OW2, HB2⟩
      case measure => have := HLT.out; simp [RowKit.intOf] <;> omega
end Po
end Go.Proofs.Ytonmojinijpneaa
