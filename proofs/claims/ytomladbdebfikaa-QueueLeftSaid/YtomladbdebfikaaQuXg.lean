/- The messages of a channel among some; what is done on other channels. -/
import Derived.Test.YtomladbdebfikaaRows
import Derived.Test.YtomladbdebfikaaQuXf
import Derived.Test.YtomladbdebfikaaQuV
import Derived.Test.YtomladbdebfikaaQuR
namespace Go.Proofs.Ytomladbdebfikaa
open Go Go.RowKit Go.Lib
set_option linter.unusedVariables false
set_option linter.unusedSimpArgs false
namespace Qu
theorem first_picked (l : List Msg) (c : Chan) (tag : Int) : firstL l c tag = (picked l c).find? (tagged tag) := by
  unfold firstL picked
  rw [List.find?_filter]
  congr 1
  funext m
  cases isM m c <;> cases tagged tag m <;> rfl
theorem picked_off {l k : List Msg} {x y : Msg} {c : Chan} (hx : ¬ x.ch = c) (hy : ¬ y.ch = c) : picked (l ++ x :: k) c = picked (l ++ y :: k) c := by
  have ex : isM x c = false := by unfold isM; rw [decide_eq_false hx]; simp
  have ey : isM y c = false := by unfold isM; rw [decide_eq_false hy]; simp
  rw [picked_app, picked_app]
  congr 1
  unfold picked
  rw [List.filter_cons, List.filter_cons, if_neg (by rw [ex]; decide), if_neg (by rw [ey]; decide)]
theorem take_off {l : List Msg} {v : Who} {c : Chan} (h : ∀ z, findL l v = some z → ¬ z.ch = c) : picked (takeL l v) c = picked l c := by
  cases hp : plc l v with
  | none => unfold takeL; rw [hp]
  | some i =>
    obtain ⟨m, hm, hw⟩ := plc_some hp
    have hf : findL l v = some m := by
      unfold findL
      rw [hp, Option.map_some, List.getD_eq_getElem?_getD, hm]
      rfl
    have hc := h m hf
    have e : takeL l v = l.modify i Msg.took := by unfold takeL; rw [hp]
    rw [e, modify_cut _ hm]
    conv => rhs; rw [cut_at hm]
    exact picked_off hc hc
theorem send_off {l : List Msg} {m : Msg} {c : Chan} (h : ¬ m.ch = c) : picked (sendL l m) c = picked l c := by
  unfold sendL
  split
  · have e : isM m c = false := by unfold isM; rw [decide_eq_false h]; simp
    rw [picked_app]
    unfold picked
    rw [List.filter_cons, if_neg (by rw [e]; decide)]
    simp
  · rfl
theorem take_none {l : List Msg} {v : Who} (h : findL l v = none) : takeL l v = l := by
  unfold findL at h
  rw [Option.map_eq_none_iff] at h
  unfold takeL
  rw [h]
/-- The messages of a channel among some. -/
def ofL (r : List Msg) (c : Chan) : List Msg := r.filter fun m => decide (m.ch = c)
theorem ofL_left {l K : List Msg} (h : IsLeft l K) (c : Chan) : ofL K c = picked l c := h.2 c
theorem ofL_step {r : List Msg} {c : Chan} {j : Nat} {m : Msg} (h : r[j]? = some m) : ofL (r.take (j + 1)) c = ofL (r.take j) c ++ if m.ch = c then [m] else [] := by
  obtain ⟨hl, he⟩ := List.getElem?_eq_some_iff.1 h
  unfold ofL
  rw [List.take_succ_eq_append_getElem hl, he, List.filter_append, List.filter_cons]
  congr 1
  by_cases e : m.ch = c <;> simp [e]
theorem ofL_len (r : List Msg) (c : Chan) : (ofL r c).length ≤ r.length := List.length_filter_le _ _
set_option maxRecDepth 100000 in
set_option maxHeartbeats 16000000 in
theorem of_c {w : World} (A : Option Addr) (cap n : Nat) (r : List Msg) (c : Chan) (h : MRow w A r) (hn : r.length = n) (hl : n ≤ 1000) :
    Calls Try.prog 30 #[.slice A n cap, .string c.key, .int .i64 c.fr, .int .i64 c.to] w fun e w' => ∃ A1 c1, e = .returned (.slice A1 (ofL r c).length c1) ∧ w'.ownsRow w.heap.size 31 8 (.slice A1 (ofL r c).length c1) (ofL r c).length (msgCs (ofL r c)) ∧ Below w.heap.size w w' := by
  obtain ⟨ck, cf, ct⟩ := c
  have HR := hide h
  have HN := hide hn
  have OW0 := hide (show w.ownsRow w.heap.size 31 8 (.slice none 0 0) 0 (msgCs (ofL (r.take 0) ⟨ck, cf, ct⟩)) from ⟨rfl, .inl ⟨rfl, rfl⟩⟩)
  have HB0 := hide (Below.refl w.heap.size w)
  simp only
  clear h hn
  go_enter Try.func30, Try.ntmps30
  go_wp2_with fail
  go_loopw [9, 10] (fun v9 v10 wr => ∃ (j : Nat) (A1 : Option Addr) (c1 m : Nat), j ≤ n ∧ v10 = .int .i64 j ∧ v9 = .slice A1 m c1 ∧ Hid ((ofL (r.take j) ⟨ck, cf, ct⟩).length = m) ∧ Hid (wr.ownsRow w.heap.size 31 8 (.slice A1 m c1) m (msgCs (ofL (r.take j) ⟨ck, cf, ct⟩))) ∧ Hid (Below w.heap.size w wr)) (fun _ v10 _ => n - (RowKit.intOf v10).toNat)
  case atStart => exact ⟨0, none, 0, 0, Nat.zero_le _, rfl, rfl, hide rfl, OW0, HB0⟩
  case round =>
    obtain ⟨j, A1, c1, m, hj, rfl, rfl, HM, HOW, HBR⟩ := hrel
    rename World => wr
    by_cases hlt : j < n
    rotate_left
    · have hltI : ¬ (j : Int) < (n : Int) := by omega
      obtain rfl : n = j := by omega
      go_wp2_with fail
      go_ret
      have e : r.take n = r := by rw [← HN.out, List.take_length]
      have h1 := HOW.out
      have h2 := HM.out
      rw [e] at h1 h2
      subst h2
      exact ⟨A1, c1, rfl, h1, HBR.out⟩
    have hltI : (j : Int) < (n : Int) := by omega
    have hge : (0 : Int) ≤ (j : Int) := by omega
    obtain ⟨⟨mk, mf, mt, mc, mg, mv, mz, mb⟩, hm⟩ : ∃ m, r[j]? = some m := ⟨_, List.getElem?_eq_getElem (by rw [HN.out]; exact hlt)⟩
    obtain ⟨g, rfl, hg, hit⟩ := (HR.out.below HBR.out).it j _ hm
    have n0 : wr.cell? ⟨g, j * 8, none⟩ = some (.string mk) := hit 0 _ rfl
    have n1 : wr.cell? ⟨g, j * 8 + 1, none⟩ = some (.int .i64 mf) := hit 1 _ rfl
    have n2 : wr.cell? ⟨g, j * 8 + 2, none⟩ = some (.int .i64 mt) := hit 2 _ rfl
    have n3 : wr.cell? ⟨g, j * 8 + 3, none⟩ = some (.int .i64 mc) := hit 3 _ rfl
    have n4 : wr.cell? ⟨g, j * 8 + 4, none⟩ = some (.int .i64 mg) := hit 4 _ rfl
    have n5 : wr.cell? ⟨g, j * 8 + 5, none⟩ = some (.int .i64 mv) := hit 5 _ rfl
    have n6 : wr.cell? ⟨g, j * 8 + 6, none⟩ = some (.int .i64 mz) := hit 6 _ rfl
    have n7 : wr.cell? ⟨g, j * 8 + 7, none⟩ = some (.bool mb) := hit 7 _ rfl
    have HLT := hide hlt
    have HST := hide (ofL_step (c := ⟨ck, cf, ct⟩) hm)
    have HML := hide (show m ≤ 1000 by
      have h1 := ofL_len (r.take j) ⟨ck, cf, ct⟩
      rw [List.length_take, HM.out] at h1
      omega)
    clear hit hm hlt hg
    go_upto_region 5 with (fail)
    obtain ⟨hb, hhb⟩ : ∃ b, decide ((Msg.ch ⟨mk, mf, mt, mc, mg, mv, mz, mb⟩) = ⟨ck, cf, ct⟩) = b := ⟨_, rfl⟩
    have HHB := hide hhb
    clear hhb
    go_cut [41] from 17 to 40 (fun x wx => x = .bool hb ∧ wr = wx)
    case first =>
      by_cases hk : mk = ck
      rotate_left
      · have hs := str_ne hk
        have ho : hb = false := by rw [← HHB.out]; exact decide_eq_false fun e => hk (congrArg Chan.key e)
        clear hk
        go_wp2_with fail
        go_meet
        exact ⟨by rw [ho], rfl⟩
      have hs : (mk.toList == ck.toList) = true := by rw [hk]; simp
      by_cases hf : mf = cf
      rotate_left
      · have hs2 : (mf == cf) = false := by simpa using hf
        have ho : hb = false := by rw [← HHB.out]; exact decide_eq_false fun e => hf (congrArg Chan.fr e)
        clear hk hf
        go_wp2_with fail
        go_meet
        exact ⟨by rw [ho], rfl⟩
      have hs2 : (mf == cf) = true := by simpa using hf
      by_cases ht : mt = ct
      rotate_left
      · have hs3 : (mt == ct) = false := by simpa using ht
        have ho : hb = false := by rw [← HHB.out]; exact decide_eq_false fun e => ht (congrArg Chan.to e)
        clear hk hf ht
        go_wp2_with fail
        go_meet
        exact ⟨by rw [ho], rfl⟩
      have hs3 : (mt == ct) = true := by simpa using ht
      have ho : hb = true := by rw [← HHB.out]; exact decide_eq_true (by rw [hk, hf, ht]; rfl)
      clear hk hf ht
      go_wp2_with fail
      go_meet
      exact ⟨by rw [ho], rfl⟩
    obtain ⟨rfl, hwc⟩ := hcut
    subst hwc
    cases hb with
    | false =>
      have HU : Hid (ofL (r.take (j + 1)) ⟨ck, cf, ct⟩ = ofL (r.take j) ⟨ck, cf, ct⟩) := hide (by rw [HST.out, if_neg (of_decide_eq_false HHB.out), List.append_nil])
      go_wp2_with fail
      go_roundw
      case rel => exact ⟨j + 1, A1, c1, m, HLT.out, by go_num, rfl, by rw [HU.out]; exact HM, by rw [HU.out]; exact HOW, HBR⟩
      case measure => have := HLT.out; simp [RowKit.intOf] <;> omega
    | true =>
      have HU : Hid (ofL (r.take (j + 1)) ⟨ck, cf, ct⟩ = ofL (r.take j) ⟨ck, cf, ct⟩ ++ [⟨mk, mf, mt, mc, mg, mv, mz, mb⟩]) := hide (by rw [HST.out, if_pos (of_decide_eq_true HHB.out)])
      obtain ⟨A2, c2, w2, hrun, hown, hgr, _⟩ := push_m wr w.heap.size A1 c1 m _ ⟨mk, mf, mt, mc, mg, mv, mz, mb⟩ HOW.out HBR.out.size (by have := HML.out; omega)
      have HB2 := hide (HBR.out.grown hgr HBR.out.size fun k e => (own_block HOW.out e).1)
      have HM2 := hide (show (ofL (r.take (j + 1)) ⟨ck, cf, ct⟩).length = m + 1 by rw [HU.out, List.length_append, HM.out]; rfl)
      have OW2 := hide (show w2.ownsRow w.heap.size 31 8 (.slice A2 (m + 1) c2) (m + 1) (msgCs (ofL (r.take (j + 1)) ⟨ck, cf, ct⟩)) by
        rw [HU.out, msgCs_app]
        simpa [msgCs] using hown)
      have RUN := hide hrun
      clear hrun hown hgr
      go_wp2_with (at_builtin; refine Lib.wpList_append_run _ rfl _ _ 27 27 rfl _ _ rfl rfl _ _ RUN.out ?_)
      go_roundw
      case rel => exact ⟨j + 1, A2, c2, m + 1, HLT.out, by go_num, by first | rfl | go_num, HM2, OW2, HB2⟩
      case measure => have := HLT.out; simp [RowKit.intOf] <;> omega
end Qu
end Go.Proofs.Ytomladbdebfikaa
