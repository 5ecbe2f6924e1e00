/- Those of a row that weren't taken: the program. -/
import Derived.Test.YtonmojinijpneaaRows
import Derived.Test.YtonmojinijpneaaQuG
namespace Go.Proofs.Ytonmojinijpneaa
open Go Go.RowKit Go.Lib
set_option linter.unusedVariables false
set_option linter.unusedSimpArgs false
namespace Qu
theorem msg_info : (Try.prog.info? 33).map (fun i => (i.zero, i.size, i.bytes)) = some (some (.agg #[.string ⟨#[]⟩, .int .i64 0, .int .i64 0, .int .i64 0, .int .i64 0, .int .i64 0, .int .i64 0, .bool false]), 8, 72) := by kernel_rfl
set_option maxRecDepth 100000 in
/-- A message put behind a row of one's own. -/
theorem push_m (w : World) (B : Nat) (A : Option Addr) (cap n : Nat) (xs : List Value) (m : Msg) (h : w.ownsRow B 33 8 (.slice A n cap) n xs) (hB : B ≤ w.heap.size) (hl : n ≤ 100000) :
    ∃ A1 c1 w1, (Builtin.append_ #[45, 45] 45 #[.slice A n cap, .slice (some ⟨w.heap.size, 0, none⟩) 1 1]).run Try.prog (w.alloc (.cells #[.string m.key, .int .i64 m.fr, .int .i64 m.to, .int .i64 m.ca, .int .i64 m.tg, .int .i64 m.va, .int .i64 m.sz, .bool m.tk] 33)) = .ok (.slice A1 (n + 1) c1) w1 ∧
      w1.ownsRow B 33 8 (.slice A1 (n + 1) c1) (n + 1) (xs ++ msgC m) ∧ w.grownBy w1 (Value.slice A n cap).ownBlock ∧ ((Value.slice A1 (n + 1) c1).ownBlock = (Value.slice A n cap).ownBlock ∨ ∃ g, (Value.slice A1 (n + 1) c1).ownBlock = some g ∧ w.heap.size ≤ g) := by
  have ba := (Below.refl w.heap.size w).alloc (Nat.le_refl _) (.cells #[.string m.key, .int .i64 m.fr, .int .i64 m.to, .int .i64 m.ca, .int .i64 m.tg, .int .i64 m.va, .int .i64 m.sz, .bool m.tk] 33)
  have kb := Blk.new w 33 #[.string m.key, .int .i64 m.fr, .int .i64 m.to, .int .i64 m.ca, .int .i64 m.tg, .int .i64 m.va, .int .i64 m.sz, .bool m.tk]
  have ow := own_belowR h ba
  have hs1 : (w.alloc (.cells #[.string m.key, .int .i64 m.fr, .int .i64 m.to, .int .i64 m.ca, .int .i64 m.tg, .int .i64 m.va, .int .i64 m.sz, .bool m.tk] 33)).heap.size = w.heap.size + 1 := by simp
  obtain ⟨Wz, hWz⟩ : ∃ x', w.alloc (.cells #[.string m.key, .int .i64 m.fr, .int .i64 m.to, .int .i64 m.ca, .int .i64 m.tg, .int .i64 m.va, .int .i64 m.sz, .bool m.tk] 33) = x' := ⟨_, rfl⟩
  rw [hWz] at ba kb ow hs1 ⊢
  have hrd : Reads Wz Wz.heap.size 8 (some ⟨w.heap.size, 0, none⟩) 1 (msgC m) := ⟨rfl, fun _ => ⟨_, rfl, kb.lt, fun j u hu => by rw [add_lit, kb.cell]; simpa [msgC] using hu⟩⟩
  obtain ⟨i0, hi0, hz0', hz1, hz2⟩ := info_parts msg_info
  obtain ⟨v11, w11, hrun, hown, hk11, hob⟩ := run_append_any (P := Try.prog) Wz B 45 45 33 i0 _ 8 72 Try.underlying45 hi0 hz0' hz1 hz2 (by rfl) (by omega) _ _ _ ow Wz.heap.size (some ⟨w.heap.size, 0, none⟩) 1 1 _ hrd (by intro u hu; unfold msgC at hu; simp only [List.mem_cons, List.not_mem_nil, or_false] at hu; rcases hu with rfl | rfl | rfl | rfl | rfl | rfl | rfl | rfl <;> rfl) (by unfold maxLen; omega) (by omega) (by omega)
  obtain ⟨A11, c11, rfl⟩ := own_form hown
  refine ⟨A11, c11, w11, hrun, hown, gtrans (grown_of_below ba) hk11, ?_⟩
  rcases hob with e | e
  · exact .inl e
  · exact .inr ⟨_, e, by omega⟩
/-- A row of messages that is read. -/
structure MRow (w : World) (A : Option Addr) (r : List Msg) : Prop where
  it : ∀ i m, r[i]? = some m → ∃ g, A = some ⟨g, 0, none⟩ ∧ g < w.heap.size ∧ ∀ k v, (msgC m)[k]? = some v → w.cell? ⟨g, i * 8 + k, none⟩ = some v
theorem MRow.below {w w' : World} {A : Option Addr} {r : List Msg} (h : MRow w A r) (hb : Below w.heap.size w w') : MRow w' A r := ⟨fun i m hm => by
  obtain ⟨g, hA, hg, hc⟩ := h.it i m hm
  exact ⟨g, hA, Nat.lt_of_lt_of_le hg hb.size, fun k v hv => (hb.cell (p := ⟨g, _, none⟩) hg).trans (hc k v hv)⟩⟩
theorem MRow.take {w : World} {A : Option Addr} {r : List Msg} (h : MRow w A r) (n : Nat) : MRow w A (r.take n) := ⟨fun i m hm => h.it i m (by
  rw [List.getElem?_take] at hm
  split at hm
  · exact hm
  · cases hm)⟩
theorem MRow.of_own {w : World} {B n c : Nat} {A : Option Addr} {r : List Msg} (h : w.ownsRow B 33 8 (.slice A n c) n (msgCs r)) (hn : r.length = n) : MRow w A r := ⟨fun i m hm => by
  have hi : i < r.length := (List.getElem?_eq_some_iff.1 hm).1
  obtain ⟨g, hA, _, _, ⟨cs, hb⟩, _, _, hc⟩ := own_cell h (by omega)
  exact ⟨g, hA, hb.lt, fun k v hv => hc _ v ((msgCs_at r i m hm k (by have := (List.getElem?_eq_some_iff.1 hv).1; rwa [msgC_len] at this)).trans hv)⟩⟩
theorem untaken_app (a b : List Msg) : untaken (a ++ b) = untaken a ++ untaken b := by simp [untaken]
theorem untaken_len (a : List Msg) : (untaken a).length ≤ a.length := List.length_filter_le _ _
set_option maxRecDepth 100000 in
set_option maxHeartbeats 16000000 in
theorem left_c {w : World} (A : Option Addr) (cap n : Nat) (r : List Msg) (h : MRow w A r) (hn : r.length = n) (hl : n ≤ 1000) :
    Calls Try.prog 56 #[.slice A n cap] w fun e w' => ∃ A1 c1, e = .returned (.slice A1 (untaken r).length c1) ∧ w'.ownsRow w.heap.size 33 8 (.slice A1 (untaken r).length c1) (untaken r).length (msgCs (untaken r)) ∧ Below w.heap.size w w' := by
  have HR := hide h
  have HN := hide hn
  have OW0 := hide (show w.ownsRow w.heap.size 33 8 (.slice none 0 0) 0 (msgCs (untaken (r.take 0))) from ⟨rfl, .inl ⟨rfl, rfl⟩⟩)
  have HB0 := hide (Below.refl w.heap.size w)
  clear h hn
  go_enter Try.func56, Try.ntmps56
  go_wp2_with fail
  go_loopw [3, 5, 8] (fun v3 _ v8 wr => ∃ (j : Nat) (A1 : Option Addr) (c1 : Nat), j ≤ n ∧ v8 = .int .i64 j ∧ v3 = .slice A1 (untaken (r.take j)).length c1 ∧ Hid (wr.ownsRow w.heap.size 33 8 (.slice A1 (untaken (r.take j)).length c1) (untaken (r.take j)).length (msgCs (untaken (r.take j)))) ∧ Hid (Below w.heap.size w wr)) (fun _ _ v8 _ => n - (RowKit.intOf v8).toNat)
  case atStart => exact ⟨0, none, 0, Nat.zero_le _, rfl, rfl, OW0, HB0⟩
  case round =>
    obtain ⟨j, A1, c1, hj, rfl, rfl, HOW, HBR⟩ := hrel
    rename World => wr
    by_cases hlt : j < n
    rotate_left
    · have hltI : ¬ (j : Int) < (n : Int) := by omega
      obtain rfl : n = j := by omega
      go_wp2_with fail
      go_ret
      have e : r.take n = r := by rw [← HN.out, List.take_length]
      have h1 := HOW.out
      rw [e] at h1
      exact ⟨A1, c1, by rw [e]; rfl, h1, HBR.out⟩
    have hltI : (j : Int) < (n : Int) := by omega
    obtain ⟨⟨mk, mf, mt, mc, mg, mv, mz, mb⟩, hm⟩ : ∃ m, r[j]? = some m := ⟨_, List.getElem?_eq_getElem (by rw [HN.out]; exact hlt)⟩
    obtain ⟨g, rfl, hg, hit⟩ := (HR.out.below HBR.out).it j _ hm
    have n0 : wr.cell? ⟨g, j * 8, none⟩ = some (.string mk) := hit 0 _ rfl
    have n1 : wr.cell? ⟨g, j * 8 + 1, none⟩ = some (.int .i64 mf) := hit 1 _ rfl
    have n2 : wr.cell? ⟨g, j * 8 + 2, none⟩ = some (.int .i64 mt) := hit 2 _ rfl
    have n3 : wr.cell? ⟨g, j * 8 + 3, none⟩ = some (.int .i64 mc) := hit 3 _ rfl
    have n4 : wr.cell? ⟨g, j * 8 + 4, none⟩ = some (.int .i64 mg) := hit 4 _ rfl
    have n5 : wr.cell? ⟨g, j * 8 + 5, none⟩ = some (.int .i64 mv) := hit 5 _ rfl
    have n6 : wr.cell? ⟨g, j * 8 + 6, none⟩ = some (.int .i64 mz) := hit 6 _ rfl
    have n7 : wr.cell? ⟨g, j * 8 + 7, none⟩ = some (.bool mb) := hit 7 _ rfl
    have HM := hide hm
    have HLT := hide hlt
    have by_ := (Below.refl wr.heap.size wr).alloc (Nat.le_refl _) (.cells #[.string mk, .int .i64 mf, .int .i64 mt, .int .i64 mc, .int .i64 mg, .int .i64 mv, .int .i64 mz, .bool mb] 33)
    have ky := Blk.new wr 33 #[.string mk, .int .i64 mf, .int .i64 mt, .int .i64 mc, .int .i64 mg, .int .i64 mv, .int .i64 mz, .bool mb]
    obtain ⟨ws, hws⟩ : ∃ z, wr.alloc (.cells #[.string mk, .int .i64 mf, .int .i64 mt, .int .i64 mc, .int .i64 mg, .int .i64 mv, .int .i64 mz, .bool mb] 33) = z := ⟨_, rfl⟩
    obtain ⟨Y, hY⟩ : ∃ z, wr.heap.size = z := ⟨_, rfl⟩
    rw [hws] at by_ ky
    rw [hY] at ky
    have HBS := hide (HBR.out.trans (by_.mono HBR.out.size))
    have OWS := hide (own_belowR HOW.out by_)
    have HWS := hide hws
    have HY := hide hY
    have KY := hide ky
    have HTS := hide (show r.take (j + 1) = r.take j ++ [⟨mk, mf, mt, mc, mg, mv, mz, mb⟩] by
      obtain ⟨hl1, he1⟩ := List.getElem?_eq_some_iff.1 HM.out
      rw [List.take_succ_eq_append_getElem hl1, he1])
    have hul := untaken_len (r.take j)
    have HUL := hide (show (untaken (r.take j)).length ≤ 1000 by rw [List.length_take] at hul; omega)
    clear hit hm by_ ky hws hY hg hlt hul
    go_upto_region 5 with (fail)
    rw [HWS.out, HY.out]
    clear HWS HY n0 n1 n2 n3 n4 n5 n6 n7
    have y0 : ws.cell? ⟨Y, 0, none⟩ = some (.string mk) := KY.out.cell 0
    have y1 : ws.cell? ⟨Y, 1, none⟩ = some (.int .i64 mf) := KY.out.cell 1
    have y2 : ws.cell? ⟨Y, 2, none⟩ = some (.int .i64 mt) := KY.out.cell 2
    have y3 : ws.cell? ⟨Y, 3, none⟩ = some (.int .i64 mc) := KY.out.cell 3
    have y4 : ws.cell? ⟨Y, 4, none⟩ = some (.int .i64 mg) := KY.out.cell 4
    have y5 : ws.cell? ⟨Y, 5, none⟩ = some (.int .i64 mv) := KY.out.cell 5
    have y6 : ws.cell? ⟨Y, 6, none⟩ = some (.int .i64 mz) := KY.out.cell 6
    have y7 : ws.cell? ⟨Y, 7, none⟩ = some (.bool mb) := KY.out.cell 7
    cases mb with
    | true =>
      have HU : Hid (untaken (r.take (j + 1)) = untaken (r.take j)) := hide (by rw [HTS.out, untaken_app]; simp [untaken])
      go_wp2_with fail
      go_roundw
      case rel => exact ⟨j + 1, A1, c1, HLT.out, by go_num, by rw [HU.out], by rw [HU.out]; exact OWS, HBS⟩
      case measure => have := HLT.out; simp [RowKit.intOf] <;> omega
    | false =>
      have HU : Hid (untaken (r.take (j + 1)) = untaken (r.take j) ++ [⟨mk, mf, mt, mc, mg, mv, mz, false⟩]) := hide (by rw [HTS.out, untaken_app]; simp [untaken])
      obtain ⟨A2, c2, w2, hrun, hown, hgr, _⟩ := push_m ws w.heap.size A1 c1 _ _ ⟨mk, mf, mt, mc, mg, mv, mz, false⟩ OWS.out HBS.out.size (by have := HUL.out; omega)
      have HB2 := hide (HBS.out.grown hgr HBS.out.size fun k e => (own_block OWS.out e).1)
      have HLN := hide (show (untaken (r.take (j + 1))).length = (untaken (r.take j)).length + 1 by rw [HU.out]; simp)
      have OW2 := hide (show w2.ownsRow w.heap.size 33 8 (.slice A2 ((untaken (r.take j)).length + 1) c2) ((untaken (r.take j)).length + 1) (msgCs (untaken (r.take (j + 1)))) by
        rw [HU.out, msgCs_app]
        simpa [msgCs] using hown)
      have RUN := hide hrun
      clear hrun hown hgr
      go_wp2_with (at_builtin; refine Lib.wpList_append_run _ rfl _ _ 45 45 rfl _ _ rfl rfl _ _ RUN.out ?_)
      go_roundw
      case rel => exact ⟨j + 1, A2, c2, HLT.out, by go_num, by rw [HLN.out], by rw [HLN.out]; exact OW2, HB2⟩
      case measure => have := HLT.out; simp [RowKit.intOf] <;> omega
end Qu
end Go.Proofs.Ytonmojinijpneaa
