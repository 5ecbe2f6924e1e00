/- The steps of the program's stack: told, Steps. -/
import Derived.Test.YtiojpokfcejhcaaDoorRows
import Derived.Test.YtiojpokfcejhcaaDoorPathF
namespace Go.Proofs.YtiojpokfcejhcaaDoor
open Go Go.RowKit
set_option linter.unusedVariables false
set_option linter.unusedSimpArgs false
namespace Pth
theorem step_info : (Tryd.prog.info? 49).map (fun i => (i.zero, i.size, i.bytes)) = some (some (.agg #[.bool false, .int .i64 0, .int .i64 0, .int .i64 0, .int .i64 0, .int .i64 0, .int .i64 0, .int .i64 0]), 8, 64) := by kernel_rfl
def lvV (x : Lv) : Value := .agg #[.int .i64 x.r, .int .i64 x.c, .slice x.A x.vs.length x.cap, .bool x.off, .int .i64 x.at_]
set_option maxRecDepth 100000 in
set_option maxHeartbeats 4000000 in
theorem told_a (x : Lv) (B n : Nat) (v : Value) (xs : List Value) (w : World) (h : x.fit) (hv : VRow w x.A x.vs) (ho : w.ownsRow B 49 8 v n xs) (hB : B ≤ w.heap.size) (hn : n ≤ 2000) :
    Calls Tryd.prog 19 #[v, .func (.func 20) #[.agg #[.int .i64 x.r, .int .i64 x.c, .slice x.A x.vs.length x.cap, .bool x.off, .int .i64 x.at_]] #[]] w fun e w' => ∃ v', e = .returned v' ∧ w'.ownsRow B 49 8 v' (n + 1) (xs ++ spC (stepOf x.r x.c x.vs x.at_)) ∧ Below B w w' := by
  obtain ⟨i0, hi0, hz0, hz1, hz2⟩ := info_parts step_info
  have HI := hide (And.intro hi0 (And.intro hz0 (And.intro hz1 hz2)))
  have SA := hide (step_a x w h hv)
  generalize stepOf x.r x.c x.vs x.at_ = s at *
  obtain ⟨soff, sr, sc, ⟨cr, cc, cf, cs, cv⟩⟩ := s
  unfold spV at SA
  simp only at SA
  obtain ⟨av, ca, rfl⟩ := own_form ho
  have HO := hide ho
  have HN := hide (And.intro hB hn)
  clear h hv ho hB hn hi0 hz0 hz1 hz2
  go_enter Tryd.func19, Tryd.ntmps19
  go_wp2_with fail
  refine SA.out.mono ?_
  rintro e w2 ⟨rfl, hb2⟩
  have hba := hb2.alloc hb2.size (.cells #[.bool soff, .int .i64 sr, .int .i64 sc, .int .i64 cr, .int .i64 cc, .int .i64 cf, .int .i64 cs, .int .i64 cv] 49)
  have hbb := Blk.new w2 49 #[.bool soff, .int .i64 sr, .int .i64 sc, .int .i64 cr, .int .i64 cc, .int .i64 cf, .int .i64 cs, .int .i64 cv]
  have own2 := own_belowR HO.out hba
  obtain ⟨W, hW⟩ : ∃ W, w2.alloc (.cells #[.bool soff, .int .i64 sr, .int .i64 sc, .int .i64 cr, .int .i64 cc, .int .i64 cf, .int .i64 cs, .int .i64 cv] 49) = W := ⟨_, rfl⟩
  rw [hW] at hba hbb own2
  have hrd : Reads W W.heap.size 8 (some ⟨w2.heap.size, 0, none⟩) 1 [.bool soff, .int .i64 sr, .int .i64 sc, .int .i64 cr, .int .i64 cc, .int .i64 cf, .int .i64 cs, .int .i64 cv] := ⟨rfl, fun _ => ⟨_, rfl, hbb.lt, fun j u hu => by rw [add_lit, hbb.cell]; simpa using hu⟩⟩
  obtain ⟨hi0, hz0, hz1, hz2⟩ := HI.out
  obtain ⟨hB, hn⟩ := HN.out
  obtain ⟨v11, w11, hrun, hown, hk, _⟩ := run_append_any (P := Tryd.prog) W B 30 30 49 i0 _ 8 64 Tryd.underlying30 hi0 hz0 hz1 hz2 (by rfl) (by omega) _ _ _ own2 W.heap.size (some ⟨w2.heap.size, 0, none⟩) 1 1 _ hrd (by intro u hu; simp only [List.mem_cons, List.not_mem_nil, or_false] at hu; rcases hu with rfl | rfl | rfl | rfl | rfl | rfl | rfl | rfl <;> rfl) (by unfold maxLen; omega) (by omega) (Nat.le_trans hB hba.size)
  have FIN := hide (And.intro hown ((hba.mono hB).grown hk (Nat.le_trans hB hba.size) fun k e => by
    rcases HO.out.2 with ⟨e0, _⟩ | ⟨g', cap, cur, e0, hge, _⟩
    · rw [e0] at e; simp [Value.ownBlock] at e
    · rw [e0] at e
      obtain rfl : g' = k := by simpa [Value.ownBlock] using e
      exact hge))
  clear hb2 hba hbb own2 hrd hi0 hz0 hz1 hz2 hB hn hown hk
  go_wp2_with (at_builtin; refine Lib.wpList_append_run _ rfl (.tmp 5) (.tmp 8) _ _ rfl _ _ rfl rfl _ w11 hrun ?_)
  go_ret
  exact ⟨_, rfl, FIN.out.1, FIN.out.2⟩
def stepsOf (ls : List Lv) : List Sp := ls.map fun x => stepOf x.r x.c x.vs x.at_
theorem stepsOf_take (ls : List Lv) (k : Nat) (h : k < ls.length) : stepsOf (ls.take (k + 1)) = stepsOf (ls.take k) ++ [stepOf ls[k].r ls[k].c ls[k].vs ls[k].at_] := by
  unfold stepsOf
  rw [List.take_succ_eq_append_getElem h, List.map_append]
  rfl
set_option maxRecDepth 100000 in
set_option maxHeartbeats 4000000 in
theorem Steps_a (T B : Nat) (ls : List Lv) (w : World) (ht : StA w T B ls) (hf : ∀ x ∈ ls, x.fit) :
    Calls Tryd.prog 9 #[.pointer (some ⟨T, 0, none⟩)] w fun e w' => ∃ v, e = .returned v ∧ w'.ownsRow w.heap.size 49 8 v ls.length (spCs (stepsOf ls)) ∧ Below w.heap.size w w' := by
  have D := hide (depth_a T B ls w ht)
  have HT := hide ht
  have HF := hide hf
  have HLE := hide ht.le
  clear ht hf
  go_enter Tryd.func9, Tryd.ntmps9
  go_wp2_with fail
  refine D.out.mono ?_
  rintro e w1 ⟨rfl, rfl⟩
  go_wp2_with fail
  go_loopw [3, 7] (fun vn vi wr => ∃ (k : Nat), k ≤ ls.length ∧ vi = .int .i64 k ∧ Hid (wr.ownsRow w.heap.size 49 8 vn k (spCs (stepsOf (ls.take k)))) ∧ Hid (Below w.heap.size w wr)) (fun _ vi _ => ls.length - (intOf vi).toNat)
  case atStart => exact ⟨0, by omega, rfl, hide ⟨rfl, .inl ⟨rfl, rfl⟩⟩, hide (Below.refl _ _)⟩
  case round =>
    obtain ⟨k, hk, rfl, HO, HB⟩ := hrel
    by_cases hlt : k < ls.length
    · have hltI : (k : Int) < (ls.length : Int) := by omega
      have hst := HT.out.below HB.out
      obtain ⟨A, c, hbT, hrow⟩ := hst.open_
      obtain ⟨g, rfl, hge, hbg, hfr, c0, c1, c2, c3, c4⟩ := hrow k hlt
      have u1 : wr.cell? ⟨T, 1, none⟩ = some (.slice (some ⟨g, 0, none⟩) ls.length c) := hbT.cell 1
      have hle := HLE.out
      have TA := hide (told_a ls[k] w.heap.size k _ _ wr (HF.out _ (List.getElem_mem hlt)) (hst.rows k hlt) HO.out HB.out.size (by omega))
      have HTS := hide (show spCs (stepsOf (ls.take (k + 1))) = spCs (stepsOf (ls.take k)) ++ spC (stepOf ls[k].r ls[k].c ls[k].vs ls[k].at_) by rw [stepsOf_take ls k hlt, spCs_app]; simp [spCs])
      generalize stepOf ls[k].r ls[k].c ls[k].vs ls[k].at_ = s at *
      generalize ls[k] = x at *
      obtain ⟨r, cc, A', cap, vs, off, at_⟩ := x
      simp only at c0 c1 c2 c3 c4 TA
      clear hbT hbg hfr hrow hst hge
      go_wp2_with fail
      refine TA.out.mono ?_
      rintro e w2 ⟨v', rfl, ho2, hb2⟩
      have HO2 := hide (HTS.out ▸ ho2)
      have HB2 := hide (HB.out.trans hb2)
      clear hb2 ho2
      go_wp2_with fail
      go_roundw
      case rel => exact ⟨k + 1, by omega, by go_num, HO2, HB2⟩
      case measure => simp [intOf]; omega
    · have hk2 : k = ls.length := by omega
      have hltI : ¬ (k : Int) < (ls.length : Int) := by omega
      have HO2 := HO.out
      rw [hk2, List.take_length] at HO2
      have HO2 := hide HO2
      clear hk2
      go_wp2_with fail
      go_ret
      exact ⟨_, rfl, HO2.out, HB.out⟩
end Pth
end Go.Proofs.YtiojpokfcejhcaaDoor
