/- Whose messages wait for a receiver: the program. -/
import Derived.Test.YtonmojinijpneaaRows
import Derived.Test.YtonmojinijpneaaQuI
namespace Go.Proofs.Ytonmojinijpneaa
open Go Go.RowKit Go.Lib
set_option linter.unusedVariables false
set_option linter.unusedSimpArgs false
namespace Qu
theorem int_infoQ : (Try.prog.info? 3).map (fun i => (i.zero, i.size, i.bytes)) = some (some (.int .i64 0), 1, 8) := by kernel_rfl
theorem ints_at {l : List Int} {j : Nat} (h : j < l.length) : (ints l)[j]? = some (.int .i64 (l.getD j 0)) := by
  unfold ints
  rw [List.getElem?_map, List.getElem?_eq_getElem h, List.getD_eq_getElem?_getD, List.getElem?_eq_getElem h]
  rfl
set_option maxRecDepth 100000 in
/-- A number put behind a row of one's own. -/
theorem push_n (w : World) (B : Nat) (A : Option Addr) (cap n : Nat) (xs : List Value) (x : Int) (h : w.ownsRow B 3 1 (.slice A n cap) n xs) (hB : B ≤ w.heap.size) (hl : n ≤ 100000) :
    ∃ A1 c1 w1, (Builtin.append_ #[116, 116] 116 #[.slice A n cap, .slice (some ⟨w.heap.size, 0, none⟩) 1 1]).run Try.prog (w.alloc (.cells #[.int .i64 x] 3)) = .ok (.slice A1 (n + 1) c1) w1 ∧
      w1.ownsRow B 3 1 (.slice A1 (n + 1) c1) (n + 1) (xs ++ [.int .i64 x]) ∧ Below B w w1 := by
  have ba := (Below.refl w.heap.size w).alloc (Nat.le_refl _) (.cells #[.int .i64 x] 3)
  have kb := Blk.new w 3 #[.int .i64 x]
  have ow := own_belowR h ba
  have hs1 : (w.alloc (.cells #[.int .i64 x] 3)).heap.size = w.heap.size + 1 := by simp
  obtain ⟨Wz, hWz⟩ : ∃ x', w.alloc (.cells #[.int .i64 x] 3) = x' := ⟨_, rfl⟩
  rw [hWz] at ba kb ow hs1 ⊢
  have hrd : Reads Wz Wz.heap.size 1 (some ⟨w.heap.size, 0, none⟩) 1 [.int .i64 x] := ⟨rfl, fun _ => ⟨_, rfl, kb.lt, fun j u hu => by rw [add_lit, kb.cell]; simpa using hu⟩⟩
  obtain ⟨i0, hi0, hz0', hz1, hz2⟩ := info_parts int_infoQ
  obtain ⟨v11, w11, hrun, hown, hk11, hob⟩ := run_append_any (P := Try.prog) Wz B 116 116 3 i0 _ 1 8 Try.underlying116 hi0 hz0' hz1 hz2 (by rfl) (by omega) _ _ _ ow Wz.heap.size (some ⟨w.heap.size, 0, none⟩) 1 1 _ hrd (by intro u hu; rw [List.mem_singleton.1 hu]; rfl) (by unfold maxLen; omega) (by omega) (by omega)
  obtain ⟨A11, c11, rfl⟩ := own_form hown
  exact ⟨A11, c11, w11, hrun, hown, (ba.mono hB).grown hk11 (by omega) (fun g e => (own_block h e).1)⟩
/-- What lies at a receiver, whichever. -/
theorem froms_any {w : World} {q : Nat} {L : QL} {l : List Msg} (h : QSt w q L l) (b : Inb) : ∃ (A : Option Addr) (cap : Nat), (SMap.look (L.sl.map fun p => (p.1, slV (fromsOf l p.1) p.2)) b).getD (.slice none 0 0) = .slice A (fromsOf l b).length cap ∧ ∀ j, j < (fromsOf l b).length → ∃ g, A = some ⟨g, 0, none⟩ ∧ ∀ w', QSt w' q L l → w'.cell? ⟨g, j, none⟩ = some (.int .i64 ((fromsOf l b).getD j 0)) := by
  by_cases hr : fromsOf l b = []
  · rw [h.nofr hr, hr]; exact ⟨none, 0, rfl, fun j hj => absurd hj (by simp)⟩
  · obtain ⟨x, hx, e⟩ := h.fr hr
    rw [e]
    refine ⟨_, _, rfl, fun j hj => ⟨x.g, rfl, fun w' hq => ?_⟩⟩
    obtain ⟨g', hg', _, _, _, _, _, hc⟩ := own_cell (hq.srow _ hx) (Nat.lt_of_le_of_lt (Nat.zero_le j) hj)
    cases hg'
    exact hc j _ (ints_at hj)
/-- Of the first j of those who sent, those whose messages wait. -/
def waitN (l : List Msg) (b : Inb) (j : Nat) : List Int := ((fromsOf l b).take j).filter fun f => (firstL l ⟨b.key, f, b.to⟩ (-1)).isSome
theorem waitN_step {l : List Msg} {b : Inb} {j : Nat} (h : j < (fromsOf l b).length) : waitN l b (j + 1) = waitN l b j ++ if (firstL l ⟨b.key, (fromsOf l b).getD j 0, b.to⟩ (-1)).isSome then [(fromsOf l b).getD j 0] else [] := by
  unfold waitN
  rw [List.take_succ_eq_append_getElem h, List.filter_append]
  have e : (fromsOf l b).getD j 0 = (fromsOf l b)[j] := by rw [List.getD_eq_getElem?_getD, List.getElem?_eq_getElem h]; rfl
  rw [e]
  congr 1
  rw [List.filter_cons]
  split <;> rfl
theorem waitN_all (l : List Msg) (b : Inb) : waitN l b (fromsOf l b).length = sendersL l b := by unfold waitN; rw [List.take_length]; exact senders_of l b
theorem froms_len (l : List Msg) (b : Inb) : (fromsOf l b).length ≤ 64 := Nat.le_trans (List.length_filter_le _ _) (by simp [upto])
set_option maxRecDepth 100000 in
set_option maxHeartbeats 16000000 in
theorem Senders_c {w : World} {q : Nat} {L : QL} {l : List Msg} (h : QSt w q L l) (b : Inb) (hl : l.length ≤ 1000) :
    Calls Try.prog 78 #[.pointer (some ⟨q, 0, none⟩), .string b.key, .int .i64 b.to] w fun e w' => ∃ A1 c1, e = .returned (.slice A1 (sendersL l b).length c1) ∧ w'.ownsRow w.heap.size 3 1 (.slice A1 (sendersL l b).length c1) (sendersL l b).length (ints (sendersL l b)) ∧ Below w.heap.size w w' := by
  have HQ0 := hide h
  have MC := hide (made_c h)
  have c2 : w.cell? ⟨q, 2, none⟩ = some (.map (some L.sm)) := h.blk.cell 2
  have lk := SMap.run_lookup keyInb Try.underlying91 zero_ints b L.sm _ w h.ms
  obtain ⟨A, cap, hv, hit⟩ := froms_any h b
  rw [hv] at lk
  unfold inV at lk
  have HIT := hide hit
  obtain ⟨n, hn⟩ : ∃ n, (fromsOf l b).length = n := ⟨_, rfl⟩
  rw [hn] at lk
  have hnl : n ≤ 64 := by have := froms_len l b; omega
  have HN := hide hn
  have HNL := hide hnl
  have OW0 := hide (show w.ownsRow w.heap.size 3 1 (.slice none 0 0) (waitN l b 0).length (ints (waitN l b 0)) from ⟨rfl, .inl ⟨rfl, rfl⟩⟩)
  have HB0 := hide (And.intro (Below.refl w.heap.size w) (Nat.le_refl w.heap.size))
  clear h hv hit hn hnl
  go_enter Try.func78, Try.ntmps78
  go_wp2_with fail
  refine MC.out.mono ?_
  rintro e wb ⟨rfl, hwb⟩
  obtain rfl : w = wb := hwb
  clear MC
  go_wp2_with fail
  go_loopw [7, 9, 10, 11, 24] (fun v7 _ _ _ v24 wr => ∃ (j : Nat) (A1 : Option Addr) (c1 : Nat), j ≤ n ∧ v24 = .int .i64 j ∧ v7 = .slice A1 (waitN l b j).length c1 ∧ Hid (wr.ownsRow w.heap.size 3 1 (.slice A1 (waitN l b j).length c1) (waitN l b j).length (ints (waitN l b j))) ∧ Hid (Below w.heap.size w wr ∧ w.heap.size ≤ wr.heap.size)) (fun _ _ _ _ v24 _ => n - (RowKit.intOf v24).toNat)
  case atStart => exact ⟨0, none, 0, Nat.zero_le _, rfl, rfl, OW0, HB0⟩
  case round =>
    obtain ⟨j, A1, c1, hj, rfl, rfl, HOW, HBR⟩ := hrel
    rename World => wr
    have hn1 := HNL.out
    by_cases hlt : j < n
    rotate_left
    · have hltI : ¬ (j : Int) < (n : Int) := by omega
      obtain rfl : n = j := by omega
      go_wp2_with fail
      go_ret
      have e : waitN l b n = sendersL l b := by rw [← HN.out, waitN_all]
      have h1 := HOW.out
      rw [e] at h1
      exact ⟨A1, c1, by rw [e]; rfl, h1, HBR.out.1⟩
    have hltI : (j : Int) < (n : Int) := by omega
    obtain ⟨g, rfl, hit⟩ := HIT.out j (by rw [HN.out]; exact hlt)
    obtain ⟨f, hf⟩ : ∃ f, (fromsOf l b).getD j 0 = f := ⟨_, rfl⟩
    have HQR := hide (HQ0.out.below HBR.out.1)
    have n0 : wr.cell? ⟨g, j, none⟩ = some (.int .i64 f) := by rw [← hf]; exact hit wr HQR.out
    have FC := hide (First_c HQR.out ⟨b.key, f, b.to⟩ (-1) hl)
    obtain ⟨res, hres⟩ : ∃ z, firstL l ⟨b.key, f, b.to⟩ (-1) = z := ⟨_, rfl⟩
    rw [hres] at FC
    have HST := hide (waitN_step (l := l) (b := b) (j := j) (by rw [HN.out]; exact hlt))
    rw [hf, hres] at HST
    have HLT := hide hlt
    have HWL := hide (show (waitN l b j).length ≤ 64 by
      have h1 : (waitN l b j).length ≤ ((fromsOf l b).take j).length := List.length_filter_le _ _
      rw [List.length_take] at h1
      omega)
    clear hit hf hres hlt
    go_wp2_with fail
    refine FC.out.mono ?_
    unfold tellV
    rintro e w5 ⟨rfl, hb5⟩
    obtain ⟨y, hy⟩ : ∃ y, res.getD m0 = y := ⟨_, rfl⟩
    rw [hy]
    have HB5 := hide (And.intro (HBR.out.1.trans (hb5.mono HBR.out.2)) (Nat.le_trans HBR.out.2 hb5.size))
    have OW5 := hide (own_belowR HOW.out hb5)
    have ba := (Below.refl w5.heap.size w5).alloc (Nat.le_refl _) (.cells #[.string y.key, .int .i64 y.fr, .int .i64 y.to, .int .i64 y.ca, .int .i64 y.tg, .int .i64 y.va, .int .i64 y.sz, .bool y.tk] 33)
    obtain ⟨w6, hw6⟩ : ∃ z, w5.alloc (.cells #[.string y.key, .int .i64 y.fr, .int .i64 y.to, .int .i64 y.ca, .int .i64 y.tg, .int .i64 y.va, .int .i64 y.sz, .bool y.tk] 33) = z := ⟨_, rfl⟩
    rw [hw6] at ba
    have HB6 := hide (And.intro (HB5.out.1.trans (ba.mono HB5.out.2)) (Nat.le_trans HB5.out.2 ba.size))
    have OW6 := hide (own_belowR OW5.out ba)
    have HW6 := hide hw6
    clear hb5 ba hw6 hy FC n0
    go_upto_region 8 with (fail)
    rw [HW6.out]
    cases res with
    | none =>
      have HU : Hid (waitN l b (j + 1) = waitN l b j) := hide (by rw [HST.out]; simp)
      go_wp2_with fail
      go_roundw
      case rel => exact ⟨j + 1, A1, c1, HLT.out, by go_num, by rw [HU.out], by rw [HU.out]; exact OW6, HB6⟩
      case measure => have := HLT.out; simp [RowKit.intOf] <;> omega
    | some m =>
      have HU : Hid (waitN l b (j + 1) = waitN l b j ++ [f]) := hide (by rw [HST.out]; simp)
      obtain ⟨A2, c2', w7, hrun, hown, hb7⟩ := push_n w6 w.heap.size A1 c1 _ _ f OW6.out HB6.out.2 (by have := HWL.out; omega)
      have HB7 := hide (And.intro (HB6.out.1.trans hb7) (Nat.le_trans HB6.out.2 hb7.size))
      have HLN := hide (show (waitN l b (j + 1)).length = (waitN l b j).length + 1 by rw [HU.out]; simp)
      have OW7 := hide (show w7.ownsRow w.heap.size 3 1 (.slice A2 ((waitN l b j).length + 1) c2') ((waitN l b j).length + 1) (ints (waitN l b (j + 1))) by
        rw [HU.out, ints_app]
        exact hown)
      have RUN := hide hrun
      clear hrun hown hb7
      go_wp2_with (at_builtin; refine Lib.wpList_append_run _ rfl _ _ 116 116 rfl _ _ rfl rfl _ _ RUN.out ?_)
      go_roundw
      case rel => exact ⟨j + 1, A2, c2', HLT.out, by go_num, by rw [HLN.out], by rw [HLN.out]; exact OW7, HB7⟩
      case measure => have := HLT.out; simp [RowKit.intOf] <;> omega
end Qu
end Go.Proofs.Ytonmojinijpneaa
