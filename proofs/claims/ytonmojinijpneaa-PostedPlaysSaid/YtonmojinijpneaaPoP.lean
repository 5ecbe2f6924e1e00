/- Which receives wait: filter, Waiting. -/
import Derived.Test.YtonmojinijpneaaRows
import Derived.Test.YtonmojinijpneaaPoO
namespace Go.Proofs.Ytonmojinijpneaa
open Go Go.RowKit Go.Lib Go.Proofs.Ytonmojinijpneaa.Qu
set_option linter.unusedVariables false
set_option linter.unusedSimpArgs false
namespace Po
def wts (l : List Rc) : List Rc := l.filter fun r => !r.dn
theorem wts_app (a b : List Rc) : wts (a ++ b) = wts a ++ wts b := by simp [wts]
theorem wts_len (a : List Rc) : (wts a).length ≤ a.length := List.length_filter_le _ _
set_option maxRecDepth 100000 in
set_option maxHeartbeats 16000000 in
theorem filterR_c {w : World} (A : Option Addr) (cap n : Nat) (r : List Rc) (h : RRow w A r) (hn : r.length = n) (hl : n ≤ 1000) :
    Calls Try.prog 47 #[.slice A n cap, .func (.func 49) #[] #[]] w fun e w' => ∃ A1 c1, e = .returned (.slice A1 (wts r).length c1) ∧ w'.ownsRow w.heap.size 35 9 (.slice A1 (wts r).length c1) (wts r).length (rcCs (wts r)) ∧ Below w.heap.size w w' := by
  have HR := hide h
  have HN := hide hn
  have OW0 := hide (show w.ownsRow w.heap.size 35 9 (.slice none 0 0) 0 (rcCs (wts (r.take 0))) from ⟨rfl, .inl ⟨rfl, rfl⟩⟩)
  have HB0 := hide (Below.refl w.heap.size w)
  clear h hn
  go_enter Try.func47, Try.ntmps47
  go_wp2_with fail
  go_loopw [5, 7, 10] (fun v3 _ v8 wr => ∃ (j : Nat) (A1 : Option Addr) (c1 : Nat), j ≤ n ∧ v8 = .int .i64 j ∧ v3 = .slice A1 (wts (r.take j)).length c1 ∧ Hid (wr.ownsRow w.heap.size 35 9 (.slice A1 (wts (r.take j)).length c1) (wts (r.take j)).length (rcCs (wts (r.take j)))) ∧ Hid (Below w.heap.size w wr)) (fun _ _ v8 _ => n - (RowKit.intOf v8).toNat)
  case atStart => exact ⟨0, none, 0, Nat.zero_le _, rfl, rfl, OW0, HB0⟩
  case round =>
    obtain ⟨j, A1, c1, hj, rfl, rfl, HOW, HBR⟩ := hrel
    rename World => wr
    by_cases hlt : j < n
    rotate_left
    · have hltI : ¬ (j : Int) < (n : Int) := by omega
      obtain rfl : n = j := by omega
      go_wp2_with fail
      go_ret
      have e : r.take n = r := by rw [← HN.out, List.take_length]
      have h1 := HOW.out
      rw [e] at h1
      exact ⟨A1, c1, by rw [e]; rfl, h1, HBR.out⟩
    have hltI : (j : Int) < (n : Int) := by omega
    obtain ⟨⟨ek, er, ec, ep, et, eq, ed, ef, es⟩, hm⟩ : ∃ m, r[j]? = some m := ⟨_, List.getElem?_eq_getElem (by rw [HN.out]; exact hlt)⟩
    obtain ⟨g, rfl, hg, hit⟩ := (HR.out.below HBR.out).it j _ hm
    have n0 : wr.cell? ⟨g, j * 9, none⟩ = some (.string ek) := hit 0 _ rfl
    have n1 : wr.cell? ⟨g, j * 9 + 1, none⟩ = some (.int .i64 er) := hit 1 _ rfl
    have n2 : wr.cell? ⟨g, j * 9 + 2, none⟩ = some (.int .i64 ec) := hit 2 _ rfl
    have n3 : wr.cell? ⟨g, j * 9 + 3, none⟩ = some (.int .i64 ep) := hit 3 _ rfl
    have n4 : wr.cell? ⟨g, j * 9 + 4, none⟩ = some (.int .i64 et) := hit 4 _ rfl
    have n5 : wr.cell? ⟨g, j * 9 + 5, none⟩ = some (.int .i64 eq) := hit 5 _ rfl
    have n6 : wr.cell? ⟨g, j * 9 + 6, none⟩ = some (.bool ed) := hit 6 _ rfl
    have n7 : wr.cell? ⟨g, j * 9 + 7, none⟩ = some (.int .i64 ef) := hit 7 _ rfl
    have n8 : wr.cell? ⟨g, j * 9 + 8, none⟩ = some (.int .i64 es) := hit 8 _ rfl
    have HM := hide hm
    have HLT := hide hlt
    have by_ := (Below.refl wr.heap.size wr).alloc (Nat.le_refl _) (.cells #[.string ek, .int .i64 er, .int .i64 ec, .int .i64 ep, .int .i64 et, .int .i64 eq, .bool ed, .int .i64 ef, .int .i64 es] 35)
    have ky := Blk.new wr 35 (#[.string ek, .int .i64 er, .int .i64 ec, .int .i64 ep, .int .i64 et, .int .i64 eq, .bool ed, .int .i64 ef, .int .i64 es])
    obtain ⟨ws, hws⟩ : ∃ z, wr.alloc (.cells #[.string ek, .int .i64 er, .int .i64 ec, .int .i64 ep, .int .i64 et, .int .i64 eq, .bool ed, .int .i64 ef, .int .i64 es] 35) = z := ⟨_, rfl⟩
    obtain ⟨Y, hY⟩ : ∃ z, wr.heap.size = z := ⟨_, rfl⟩
    rw [hws] at by_ ky
    rw [hY] at ky
    have HBS := hide (HBR.out.trans (by_.mono HBR.out.size))
    have OWS := hide (own_belowR HOW.out by_)
    have HWS := hide hws
    have HY := hide hY
    have KY := hide ky
    have HTS := hide (show r.take (j + 1) = r.take j ++ [⟨ek, er, ec, ep, et, eq, ed, ef, es⟩] by
      obtain ⟨hl1, he1⟩ := List.getElem?_eq_some_iff.1 HM.out
      rw [List.take_succ_eq_append_getElem hl1, he1])
    have hul := wts_len (r.take j)
    have HUL := hide (show (wts (r.take j)).length ≤ 1000 by rw [List.length_take] at hul; omega)
    clear hit hm by_ ky hws hY hg hlt hul
    go_upto_region 5 with (fail)
    rw [HWS.out, HY.out]
    clear HWS HY n0 n1 n2 n3 n4 n5 n6 n7 n8
    have y0 : ws.cell? ⟨Y, 0, none⟩ = some (.string ek) := KY.out.cell 0
    have y1 : ws.cell? ⟨Y, 1, none⟩ = some (.int .i64 er) := KY.out.cell 1
    have y2 : ws.cell? ⟨Y, 2, none⟩ = some (.int .i64 ec) := KY.out.cell 2
    have y3 : ws.cell? ⟨Y, 3, none⟩ = some (.int .i64 ep) := KY.out.cell 3
    have y4 : ws.cell? ⟨Y, 4, none⟩ = some (.int .i64 et) := KY.out.cell 4
    have y5 : ws.cell? ⟨Y, 5, none⟩ = some (.int .i64 eq) := KY.out.cell 5
    have y6 : ws.cell? ⟨Y, 6, none⟩ = some (.bool ed) := KY.out.cell 6
    have y7 : ws.cell? ⟨Y, 7, none⟩ = some (.int .i64 ef) := KY.out.cell 7
    have y8 : ws.cell? ⟨Y, 8, none⟩ = some (.int .i64 es) := KY.out.cell 8
    have WC := hide (waits_c ek er ec ep et eq ed ef es ws)
    cases ed with
    | true =>
      have HU : Hid (wts (r.take (j + 1)) = wts (r.take j)) := hide (by rw [HTS.out, wts_app]; simp [wts])
      go_wp2_with (go_at_call 49; refine WC.out.mono ?_; rintro e wt ⟨rfl, hbt⟩)
      have HBT := hide (HBS.out.trans (hbt.mono HBS.out.size))
      have OWT := hide (own_belowR OWS.out hbt)
      clear hbt
      go_roundw
      case rel => exact ⟨j + 1, A1, c1, HLT.out, by go_num, by rw [HU.out], by rw [HU.out]; exact OWT, HBT⟩
      case measure => have := HLT.out; simp [RowKit.intOf] <;> omega
    | false =>
      have HU : Hid (wts (r.take (j + 1)) = wts (r.take j) ++ [⟨ek, er, ec, ep, et, eq, false, ef, es⟩]) := hide (by rw [HTS.out, wts_app]; simp [wts])
      go_wp2_with fail
      refine WC.out.mono ?_
      rintro e wt ⟨rfl, hbt⟩
      have kyt := KY.out.below hbt KY.out.lt
      have z0 : wt.cell? ⟨Y, 0, none⟩ = some (.string ek) := kyt.cell 0
      have z1 : wt.cell? ⟨Y, 1, none⟩ = some (.int .i64 er) := kyt.cell 1
      have z2 : wt.cell? ⟨Y, 2, none⟩ = some (.int .i64 ec) := kyt.cell 2
      have z3 : wt.cell? ⟨Y, 3, none⟩ = some (.int .i64 ep) := kyt.cell 3
      have z4 : wt.cell? ⟨Y, 4, none⟩ = some (.int .i64 et) := kyt.cell 4
      have z5 : wt.cell? ⟨Y, 5, none⟩ = some (.int .i64 eq) := kyt.cell 5
      have z6 : wt.cell? ⟨Y, 6, none⟩ = some (.bool false) := kyt.cell 6
      have z7 : wt.cell? ⟨Y, 7, none⟩ = some (.int .i64 ef) := kyt.cell 7
      have z8 : wt.cell? ⟨Y, 8, none⟩ = some (.int .i64 es) := kyt.cell 8
      have HBT := hide (HBS.out.trans (hbt.mono HBS.out.size))
      have OWT := hide (own_belowR OWS.out hbt)
      clear hbt kyt y0 y1 y2 y3 y4 y5 y6 y7 y8
      obtain ⟨A2, c2, w2, hrun, hown, hgr, _⟩ := push_r wt w.heap.size A1 c1 _ _ ⟨ek, er, ec, ep, et, eq, false, ef, es⟩ OWT.out HBT.out.size (by have := HUL.out; omega)
      have HB2 := hide (HBT.out.grown hgr HBT.out.size fun k e => (own_block OWT.out e).1)
      have HLN := hide (show (wts (r.take (j + 1))).length = (wts (r.take j)).length + 1 by rw [HU.out]; simp)
      have OW2 := hide (show w2.ownsRow w.heap.size 35 9 (.slice A2 ((wts (r.take j)).length + 1) c2) ((wts (r.take j)).length + 1) (rcCs (wts (r.take (j + 1)))) by
        rw [HU.out, rcCs_app]
        simpa [rcCs] using hown)
      have RUN := hide hrun
      clear hrun hown hgr
      go_wp2_with (at_builtin; refine Lib.wpList_append_run _ rfl _ _ 42 42 rfl _ _ rfl rfl _ _ RUN.out ?_)
      go_roundw
      case rel => exact ⟨j + 1, A2, c2, HLT.out, by go_num, by rw [HLN.out], by rw [HLN.out]; exact OW2, HB2⟩
      case measure => have := HLT.out; simp [RowKit.intOf] <;> omega
set_option maxRecDepth 100000 in
theorem waiting_c {w : World} {p : Nat} {L : Nat → Option Addr × Nat} {ls : Nat → List Rc} (h : PSt w p L ls) (hlen : ∀ k, k < 64 → (ls k).length ≤ 1000) (rk : Int) :
    Calls Try.prog 16 #[.pointer (some ⟨p, 0, none⟩), .int .i64 rk] w fun e w' => ∃ A1 c1, e = .returned (.slice A1 (wts (rowL ls rk)).length c1) ∧ w'.ownsRow w.heap.size 35 9 (.slice A1 (wts (rowL ls rk)).length c1) (wts (rowL ls rk)).length (rcCs (wts (rowL ls rk))) ∧ Below w.heap.size w w' := by
  obtain ⟨A, cap, hrr, hof⟩ := of_c w p L ls h rk
  have FC := hide (filterR_c A cap _ (rowL ls rk) hrr rfl (rowL_len hlen rk))
  have OC := hide hof
  clear h hlen hrr hof
  go_enter Try.func16, Try.ntmps16
  go_wp2_with fail
  refine OC.out.mono ?_
  rintro e w1 ⟨rfl, rfl⟩
  go_wp2_with fail
  refine FC.out.mono ?_
  rintro e w2 ⟨A2, c2, rfl, ho, hb2⟩
  go_wp2_with fail
  go_ret
  exact ⟨A2, c2, rfl, ho, hb2⟩
end Po
end Go.Proofs.Ytonmojinijpneaa
