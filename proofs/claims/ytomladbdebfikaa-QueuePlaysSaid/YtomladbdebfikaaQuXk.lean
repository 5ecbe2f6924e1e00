/- The document's queue: what is left; a copy. -/
import Derived.Test.YtomladbdebfikaaRows
import Derived.Test.YtomladbdebfikaaQuXd
import Derived.Test.YtomladbdebfikaaQuT
import Derived.Test.YtomladbdebfikaaQuV
import Derived.Test.YtomladbdebfikaaRelG
import Derived.Test.YtomladbdebfikaaRelK
import Derived.BigQuiet
namespace Go.Proofs.Ytomladbdebfikaa
open Go Go.RowKit Go.Lib
set_option linter.unusedVariables false
set_option linter.unusedSimpArgs false
namespace Qu
set_option maxRecDepth 100000 in
set_option maxHeartbeats 4000000 in
theorem ahead_b (x y : Msg) (w : World) : Calls Try.prog 44 #[.agg #[.string x.key, .int .i64 x.fr, .int .i64 x.to, .int .i64 x.ca, .int .i64 x.tg, .int .i64 x.va, .int .i64 x.sz, .bool x.tk], .agg #[.string y.key, .int .i64 y.fr, .int .i64 y.to, .int .i64 y.ca, .int .i64 y.tg, .int .i64 y.va, .int .i64 y.sz, .bool y.tk]] w fun e w' => e = .returned (.bool (decide (chLt x.ch y.ch))) ∧ Below w.heap.size w w' := by
  have HB := hide (((Below.refl w.heap.size w).alloc (Nat.le_refl _) (.cells #[.string x.key, .int .i64 x.fr, .int .i64 x.to, .int .i64 x.ca, .int .i64 x.tg, .int .i64 x.va, .int .i64 x.sz, .bool x.tk] 31)).alloc (by simp) (.cells #[.string y.key, .int .i64 y.fr, .int .i64 y.to, .int .i64 y.ca, .int .i64 y.tg, .int .i64 y.va, .int .i64 y.sz, .bool y.tk] 31))
  obtain ⟨xk, xf, xt, xc, xg, xv, xz, xb⟩ := x
  obtain ⟨yk, yf, yt, yc, yg, yv, yz, yb⟩ := y
  simp only at HB ⊢
  obtain ⟨r, hr⟩ : ∃ r, decide (chLt (Msg.ch ⟨xk, xf, xt, xc, xg, xv, xz, xb⟩) (Msg.ch ⟨yk, yf, yt, yc, yg, yv, yz, yb⟩)) = r := ⟨_, rfl⟩
  rw [hr]
  have HR := hide hr
  clear hr
  by_cases hk : xk = yk
  rotate_left
  · have hs := str_ne hk
    have he : r = Op.bytesLess xk.toList yk.toList := by
      rw [← HR.out]
      cases hb : Op.bytesLess xk.toList yk.toList with
      | true => exact decide_eq_true (.inl hb)
      | false =>
        refine decide_eq_false fun h => ?_
        rcases h with h | h
        · have h' : Op.bytesLess xk.toList yk.toList = true := h
          rw [hb] at h'
          cases h'
        · exact hk h.1
    rw [he]
    clear he hk
    go_enter Try.func44, Try.ntmps44
    go_wp2
    go_ret
    exact ⟨rfl, HB.out⟩
  have hs : (xk.toList == yk.toList) = true := by rw [hk]; simp
  have hirr : kLess xk yk = false := by rw [hk]; exact bl_irr _
  by_cases hf : xf = yf
  rotate_left
  · have hs2 : (xf != yf) = true := by simpa using hf
    have he : r = decide (xf < yf) := by
      rw [← HR.out]
      refine decide_eq_decide.2 ⟨fun h => ?_, fun h => .inr ⟨hk, .inl h⟩⟩
      rcases h with h | h
      · have h' : kLess xk yk = true := h
        rw [hirr] at h'
        cases h'
      · rcases h.2 with h2 | h2
        · exact h2
        · exact absurd h2.1 hf
    rw [he]
    clear he hk hf hirr
    go_enter Try.func44, Try.ntmps44
    go_wp2
    go_ret
    exact ⟨rfl, HB.out⟩
  have hs2 : (xf != yf) = false := by simpa using hf
  have he : r = decide (xt < yt) := by
    rw [← HR.out]
    refine decide_eq_decide.2 ⟨fun h => ?_, fun h => .inr ⟨hk, .inr ⟨hf, h⟩⟩⟩
    rcases h with h | h
    · have h' : kLess xk yk = true := h
      rw [hirr] at h'
      cases h'
    · rcases h.2 with h2 | h2
      · have h2' : xf < yf := h2
        omega
      · exact h2.2
  rw [he]
  clear he hk hf hirr
  go_enter Try.func44, Try.ntmps44
  go_wp2
  go_ret
  exact ⟨rfl, HB.out⟩
/-- A message put in. -/
theorem isLeft_put {l K : List Msg} {x : Msg} {p : Nat} (h : IsLeft l K) (ht : x.tk = false) (hp : p ≤ K.length) (ha : ∀ k y, p ≤ k → K[k]? = some y → chLt x.ch y.ch) (hb : ∀ k y, k + 1 = p → K[k]? = some y → ¬ chLt x.ch y.ch) :
    IsLeft (l ++ [x]) (K.take p ++ x :: K.drop p) := by
  have hK := List.take_append_drop p K
  have hs := h.1
  rw [← hK, List.pairwise_append] at hs
  obtain ⟨s1, s2, s3⟩ := hs
  have hd : ∀ y ∈ K.drop p, chLt x.ch y.ch := fun y hy => by
    obtain ⟨j, hj⟩ := List.mem_iff_getElem?.1 hy
    rw [List.getElem?_drop] at hj
    exact ha _ y (Nat.le_add_right _ _) hj
  have htk : ∀ y ∈ K.take p, ¬ chLt x.ch y.ch := fun y hy hlt => by
    obtain ⟨j, hj⟩ := List.mem_iff_getElem?.1 hy
    rw [List.getElem?_take] at hj
    split at hj
    · rename_i hjp
      obtain ⟨q, hq⟩ : ∃ q, q + 1 = p := ⟨p - 1, by omega⟩
      obtain ⟨z, hz⟩ : ∃ z, K[q]? = some z := ⟨_, List.getElem?_eq_getElem (by omega)⟩
      have hbz := hb q z hq hz
      rcases Nat.lt_or_ge j q with hlt2 | hge
      · have hpw := List.pairwise_iff_getElem.1 h.1 j q (by omega) (by omega) hlt2
        obtain ⟨_, e1⟩ := List.getElem?_eq_some_iff.1 hj
        obtain ⟨_, e2⟩ := List.getElem?_eq_some_iff.1 hz
        rw [e1, e2] at hpw
        exact chLt_nle hbz hpw hlt
      · have : j = q := by omega
        subst this
        rw [hz] at hj
        cases hj
        exact hbz hlt
    · cases hj
  refine ⟨?_, fun c => ?_⟩
  · rw [List.pairwise_append]
    refine ⟨s1, ?_, fun a ha' b hb' => ?_⟩
    · rw [List.pairwise_cons]
      exact ⟨fun y hy => chLt_asymm (hd y hy), s2⟩
    · rcases List.mem_cons.1 hb' with e | hb'
      · rw [e]; exact htk a ha'
      · exact s3 a ha' b hb'
  · have hc := h.2 c
    rw [← hK, List.filter_append] at hc
    rw [List.filter_append, List.filter_cons, List.filter_append, ← hc, List.filter_cons]
    have e : isM x c = decide (x.ch = c) := by unfold isM; simp [ht]
    rw [e]
    by_cases hx : x.ch = c
    · rw [decide_eq_true hx]
      have : (K.drop p).filter (fun m => decide (m.ch = c)) = [] := List.filter_eq_nil_iff.2 fun y hy hh => by
        have e2 : y.ch = c := by simpa using hh
        have := hd y hy
        rw [e2, hx] at this
        exact chLt_irr _ this
      rw [this]
      simp
    · rw [decide_eq_false hx]
      simp
theorem isLeft_skip {l K : List Msg} {x : Msg} (h : IsLeft l K) (ht : x.tk = true) : IsLeft (l ++ [x]) K := ⟨h.1, fun c => by
  rw [h.2 c, List.filter_append, List.filter_cons, if_neg (by unfold isM; simp [ht])]
  simp⟩
theorem oneM (k : List Msg) : ∀ u ∈ msgCs k, u.oneCell' = true := fun u hu => by
  induction k with
  | nil => cases hu
  | cons x k ih =>
    rw [msgCs] at hu
    rcases List.mem_append.1 hu with hu | hu
    · unfold msgC at hu
      simp only [List.mem_cons, List.not_mem_nil, or_false] at hu
      rcases hu with rfl | rfl | rfl | rfl | rfl | rfl | rfl | rfl <;> rfl
    · exact ih hu
theorem reads_drop {w : World} {B n c p : Nat} {K : List Msg} {g : Nat} (h : w.ownsRow B 31 8 (.slice (some ⟨g, 0, none⟩) n c) n (msgCs K)) (hK : K.length = n) (hp : p ≤ n) : Reads w w.heap.size 8 (some ⟨g, p * 8, none⟩) (n - p) (msgCs (K.drop p)) := by
  refine ⟨by rw [msgCs_len, List.length_drop, hK], fun h0 => ⟨_, rfl, ?_, fun j u hu => ?_⟩⟩
  · obtain ⟨g', e, _, _, ⟨cs, hb⟩, _⟩ := own_cell h (by omega)
    cases e
    exact hb.lt
  · obtain ⟨g', e, _, _, _, _, _, hc⟩ := own_cell h (by omega)
    cases e
    have hj : j < (n - p) * 8 := by
      have := (List.getElem?_eq_some_iff.1 hu).1
      rw [msgCs_len, List.length_drop, hK] at this
      exact this
    obtain ⟨m, hm⟩ : ∃ m, (K.drop p)[j / 8]? = some m := ⟨_, List.getElem?_eq_getElem (by rw [List.length_drop, hK]; omega)⟩
    have h1 := msgCs_at (K.drop p) (j / 8) m hm (j % 8) (by omega)
    rw [show j / 8 * 8 + j % 8 = j by omega, hu] at h1
    rw [List.getElem?_drop] at hm
    have h2 := msgCs_at K (p + j / 8) m hm (j % 8) (by omega)
    rw [← h1] at h2
    have h3 := hc _ u h2
    have e2 : (⟨g, p * 8, none⟩ : Addr).add j = ⟨g, (p + j / 8) * 8 + j % 8, none⟩ := by
      unfold Addr.add
      split
      · rename_i hj0
        subst hj0
        simp
      · congr 1
        show p * 8 + j = _
        omega
    rw [e2]
    exact h3
/-- Rest, copied onto an empty row. -/
theorem copy_rest (wz : World) (A9 : Option Addr) (c9 m : Nat) (K : List Msg) (hK : K.length = m) (hr : Reads wz wz.heap.size 8 A9 m (msgCs K)) (hl : m ≤ 1000) :
    ∃ A1 c1 w1, (Builtin.append_ #[27, 27] 27 #[.slice (some ⟨wz.heap.size, 0, none⟩) 0 0, .slice A9 m c9]).run Try.prog (wz.alloc (.cells #[] 31)) = .ok (.slice A1 m c1) w1 ∧
      w1.ownsRow wz.heap.size 31 8 (.slice A1 m c1) m (msgCs K) ∧ Below wz.heap.size wz w1 := by
  have ba := (Below.refl wz.heap.size wz).alloc (Nat.le_refl _) (.cells #[] 31)
  have own0 : (wz.alloc (.cells #[] 31)).ownsRow wz.heap.size 31 8 (.slice (some ⟨wz.heap.size, 0, none⟩) 0 0) 0 [] := ⟨rfl, .inr ⟨wz.heap.size, 0, #[], rfl, Nat.le_refl _, heap_alloc_new wz _, Nat.le_refl _, by unfold maxLen; omega, rfl, rfl⟩⟩
  have hrd := Reads.more (Reads.below hr ba) ba.size
  have hs1 : (wz.alloc (.cells #[] 31)).heap.size = wz.heap.size + 1 := by simp
  obtain ⟨Wz, hWz⟩ : ∃ x', wz.alloc (.cells #[] 31) = x' := ⟨_, rfl⟩
  rw [hWz] at ba own0 hrd hs1 ⊢
  obtain ⟨A1, c1, w1, hrun, hown, hgr⟩ := push_ms Wz wz.heap.size _ 0 0 _ A9 c9 m K hK own0 hrd (by omega) (by omega) (by omega)
  rw [Nat.zero_add] at hrun hown
  exact ⟨A1, c1, w1, hrun, hown, ba.grown hgr (by omega) (fun k e => by have := (own_block own0 e).1; omega)⟩
theorem msgCs_take : ∀ (K : List Msg) (p : Nat), (msgCs K).take (p * 8) = msgCs (K.take p)
  | [], p => by simp [msgCs]
  | x :: K, 0 => by simp [msgCs]
  | x :: K, p + 1 => by
    rw [List.take_succ_cons, msgCs, msgCs, show (p + 1) * 8 = (msgC x).length + p * 8 by rw [msgC_len]; omega, List.take_length_add_append, msgCs_take K p]
theorem own_gr {w w' : World} {B n c size : Nat} {A : Option Addr} {e : TypeId} {xs : List Value} {r : Option Nat} (h : w.ownsRow B e size (.slice A n c) n xs) (hg : w.grownBy w' r) (hr : ∀ g, r = some g → g < B) : w'.ownsRow B e size (.slice A n c) n xs := by
  refine ⟨h.1, h.2.imp id ?_⟩
  rintro ⟨g', cap, cur, hv, hge, hh, rr⟩
  exact ⟨g', cap, cur, hv, hge, (hg.block g' (Array.getElem?_eq_some_iff.1 hh).1 (fun e => by have := hr g' e.symm; omega)).trans hh, rr⟩
set_option maxRecDepth 100000 in
set_option maxHeartbeats 16000000 in
theorem Left_b {w : World} {p : Nat} {A : Option Addr} {l : List Msg} (h : RAt w p A l) (hl : l.length ≤ 1000) :
    Calls Try.prog 18 #[.pointer (some ⟨p, 0, none⟩)] w fun e w' => ∃ A1 c1 K, e = .returned (.slice A1 K.length c1) ∧ IsLeft l K ∧ w'.ownsRow w.heap.size 31 8 (.slice A1 K.length c1) K.length (msgCs K) ∧ Below w.heap.size w w' := by
  obtain ⟨capl, hbp, hownl⟩ := h
  obtain ⟨n, hn⟩ : ∃ z, l.length = z := ⟨_, rfl⟩
  rw [hn] at hbp hownl
  have HP := hide hbp
  have HOL := hide hownl
  have HN := hide hn
  have HNL := hide (show n ≤ 1000 by omega)
  have OW0 := hide (show w.ownsRow w.heap.size 31 8 (.slice none 0 0) 0 (msgCs []) from ⟨rfl, .inl ⟨rfl, rfl⟩⟩)
  have IL0 := hide (show IsLeft (l.take 0) [] from ⟨List.Pairwise.nil, fun c => rfl⟩)
  clear hbp hownl hn hl
  go_enter Try.func18, Try.ntmps18
  go_wp2_with fail
  go_loopw [3, 4, 5, 6] (fun v3 v4 _ _ wr => ∃ (i : Nat) (K : List Msg) (O : Option Addr) (oc m : Nat), i ≤ n ∧ v4 = .int .i64 i ∧ v3 = .slice O m oc ∧ Hid (K.length = m) ∧ Hid (IsLeft (l.take i) K) ∧ Hid ((O = none ∧ m = 0 ∧ oc = 0) ∨ ∃ g, O = some ⟨g, 0, none⟩ ∧ 0 < m ∧ m ≤ oc) ∧ Hid (wr.ownsRow w.heap.size 31 8 (.slice O m oc) m (msgCs K)) ∧ Hid (Below w.heap.size w wr)) (fun _ v4 _ _ _ => n - (RowKit.intOf v4).toNat)
  case atStart => exact ⟨0, [], none, 0, 0, Nat.zero_le _, rfl, rfl, hide rfl, IL0, hide (.inl ⟨rfl, rfl, rfl⟩), OW0, hide (Below.refl _ _)⟩
  case round =>
    obtain ⟨i, K, O, oc, m, hi, rfl, rfl, HKM, HIL, HO, HOW, HBR⟩ := hrel
    rename World => wr
    have hn1 := HNL.out
    have c0 : wr.cell? ⟨p, 0, none⟩ = some (.slice A n capl) := (HP.out.below HBR.out HP.out.lt).cell 0
    by_cases hlt : i < n
    rotate_left
    · have hltI : ¬ (i : Int) < (n : Int) := by omega
      obtain rfl : n = i := by omega
      have e : l.take n = l := by rw [← HN.out, List.take_length]
      rw [e] at HIL
      have hm := HKM.out
      subst hm
      clear e hlt
      go_wp2_with fail
      go_ret
      exact ⟨O, oc, K, rfl, HIL.out, HOW.out, HBR.out⟩
    have hltI : (i : Int) < (n : Int) := by omega
    have hgeI : (0 : Int) ≤ (i : Int) := by omega
    obtain ⟨gl, hA, _, _, ⟨csl, hbl⟩, _, _, hcl⟩ := own_cell HOL.out (by omega)
    subst hA
    obtain ⟨⟨mk, mf, mt, mc, mg, mv, mz, mb⟩, hm⟩ : ∃ m, l[i]? = some m := ⟨_, List.getElem?_eq_getElem (by rw [HN.out]; exact hlt)⟩
    have HLC := hide (show ∀ wx, Below w.heap.size w wx → ∀ k v, (msgC ⟨mk, mf, mt, mc, mg, mv, mz, mb⟩)[k]? = some v → wx.cell? ⟨gl, i * 8 + k, none⟩ = some v from fun wx hb k v hv => (hb.cell (p := ⟨gl, _, none⟩) hbl.lt).trans (hcl _ v ((msgCs_at l i _ hm k (by have := (List.getElem?_eq_some_iff.1 hv).1; rwa [msgC_len] at this)).trans hv)))
    have n7 : wr.cell? ⟨gl, i * 8 + 7, none⟩ = some (.bool mb) := HLC.out wr HBR.out 7 _ rfl
    have HTS := hide (show l.take (i + 1) = l.take i ++ [⟨mk, mf, mt, mc, mg, mv, mz, mb⟩] by
      obtain ⟨hl1, he1⟩ := List.getElem?_eq_some_iff.1 hm
      rw [List.take_succ_eq_append_getElem hl1, he1])
    have HLT := hide hlt
    have HMB := hide (show m ≤ 1000 by
      have h1 := isLeft_len HIL.out
      rw [List.length_take, HKM.out] at h1
      omega)
    have HPC := hide (show ∀ wx, Below w.heap.size w wx → wx.cell? ⟨p, 0, none⟩ = some (.slice (some ⟨gl, 0, none⟩) n capl) from fun wx hb => (HP.out.below hb HP.out.lt).cell 0)
    clear hm hbl hcl hlt csl
    cases mb with
    | true =>
      have HIL2 := hide (show IsLeft (l.take (i + 1)) K by rw [HTS.out]; exact isLeft_skip HIL.out rfl)
      go_wp2_with fail
      go_roundw
      case rel => exact ⟨i + 1, K, O, oc, m, HLT.out, by go_num, rfl, HKM, HIL2, HO, HOW, HBR⟩
      case measure => have := HLT.out; simp [RowKit.intOf] <;> omega
    | false =>
      go_wp2_with fail
      clear c0 n7
      go_loopw [5] (fun v5 wz => ∃ (at_ : Nat), at_ ≤ m ∧ v5 = .int .i64 at_ ∧ Hid (∀ k y, at_ ≤ k → K[k]? = some y → chLt (Msg.ch ⟨mk, mf, mt, mc, mg, mv, mz, false⟩) y.ch) ∧ Hid (Below wr.heap.size wr wz)) (fun v5 _ => (RowKit.intOf v5).toNat)
      case atStart => exact ⟨m, Nat.le_refl _, rfl, hide (fun k y hk hy => by have := (List.getElem?_eq_some_iff.1 hy).1; have := HKM.out; omega), hide (Below.refl _ _)⟩
      case round =>
        obtain ⟨at_, hat, rfl, HAT, HBZ⟩ := hrel
        rename World => wz
        have hm1 := HMB.out
        have HWZ := hide (HBR.out.trans (HBZ.out.mono HBR.out.size))
        obtain ⟨hb, hhb⟩ : ∃ b, decide (at_ ≠ 0 ∧ chLt (Msg.ch ⟨mk, mf, mt, mc, mg, mv, mz, false⟩) (K.getD (at_ - 1) m0).ch) = b := ⟨_, rfl⟩
        have HHB := hide hhb
        have HATM := hide hat
        clear hhb
        go_upto_region 7 with (fail)
        go_cut [42] from 26 to 41 (fun x wx => x = .bool hb ∧ Hid (Below wz.heap.size wz wx))
        case first =>
          rcases Nat.eq_zero_or_pos at_ with h0 | h0
          · subst h0
            have ho : hb = false := by rw [← HHB.out]; exact decide_eq_false fun ⟨hk, _⟩ => hk rfl
            go_quiet (fail)
            go_wp2_with fail
            go_meet
            exact ⟨by rw [ho], hide (below_drewN (Below.refl _ _) _)⟩
          · obtain ⟨q, hq⟩ : ∃ q, at_ = q + 1 := ⟨at_ - 1, by omega⟩
            subst hq
            obtain ⟨⟨yk, yf, yt, yc, yg, yv, yz, yb⟩, hy⟩ : ∃ y, K[q]? = some y := ⟨_, List.getElem?_eq_getElem (by rw [HKM.out]; omega)⟩
            have hO := HO.out
            rcases hO with ⟨_, hm0, _⟩ | ⟨g, hO, _, _⟩
            · omega
            subst hO
            have HYC := hide (show ∀ wx, Below wz.heap.size wz wx → ∀ k v, (msgC ⟨yk, yf, yt, yc, yg, yv, yz, yb⟩)[k]? = some v → wx.cell? ⟨g, q * 8 + k, none⟩ = some v from fun wx hb => (by
              have ho := own_belowR HOW.out (HBZ.out.trans (hb.mono HBZ.out.size))
              obtain ⟨g', e, _, hit⟩ := (MRow.of_own ho HKM.out).it q _ hy
              cases e
              exact hit))
            have ho : hb = decide (chLt (Msg.ch ⟨mk, mf, mt, mc, mg, mv, mz, false⟩) (Msg.ch ⟨yk, yf, yt, yc, yg, yv, yz, yb⟩)) := by
              rw [← HHB.out]
              refine decide_eq_decide.2 ⟨fun ⟨hk, hlt⟩ => ?_, fun hlt => ⟨by omega, by rw [Nat.add_sub_cancel, List.getD_eq_getElem?_getD, hy]; exact hlt⟩⟩
              rw [Nat.add_sub_cancel, List.getD_eq_getElem?_getD, hy] at hlt
              exact hlt
            have HHO := hide ho
            have AH := hide (fun wx => ahead_b ⟨mk, mf, mt, mc, mg, mv, mz, false⟩ ⟨yk, yf, yt, yc, yg, yv, yz, yb⟩ wx)
            have h1I : (0 : Int) < ((q + 1 : Nat) : Int) := by omega
            have hqI : ((q + 1 : Nat) : Int) - 1 = (q : Int) := by omega
            have hq2 : (q : Int) < (m : Int) := by omega
            have hqw : IntKind.i64.wrap (q : Int) = (q : Int) := by simp [IntKind.wrap, IntKind.bits, IntKind.signed]; omega
            have hq3 : (0 : Int) ≤ (q : Int) := by omega
            obtain ⟨ra, hra⟩ : ∃ b, decide (chLt (Msg.ch ⟨mk, mf, mt, mc, mg, mv, mz, false⟩) (Msg.ch ⟨yk, yf, yt, yc, yg, yv, yz, yb⟩)) = b := ⟨_, rfl⟩
            simp only [hra] at AH
            rw [hra] at HHO
            obtain ⟨at2, hat2⟩ : ∃ z, q + 1 = z := ⟨_, rfl⟩
            have h1N : 0 < q + 1 := by omega
            rw [hat2] at h1I hqI hat h1N ⊢
            have HA2 := hide hat2
            clear hy ho hra hat2 h0
            let R : Nat → Value → World → Prop := fun sl u w1 => match sl with
              | 26 => u = .int .i64 at2
              | 27 => u = .bool true
              | 28 => u = .bool true
              | 29 => u = .pointer (some ⟨p, 0, none⟩)
              | 30 => u = .pointer (some ⟨p, 0, none⟩)
              | 31 => u = .pointer (some ⟨p, 0, none⟩)
              | 32 => u = .slice (some ⟨gl, 0, none⟩) n capl
              | 33 => u = .int .i64 i
              | 34 => u = .pointer (some ⟨gl, i * 8, none⟩)
              | 35 => u = .agg #[.string mk, .int .i64 mf, .int .i64 mt, .int .i64 mc, .int .i64 mg, .int .i64 mv, .int .i64 mz, .bool false]
              | 36 => u = .slice (some ⟨g, 0, none⟩) m oc
              | 37 => u = .int .i64 at2
              | 38 => u = .int .i64 q
              | 39 => u = .pointer (some ⟨g, q * 8, none⟩)
              | 40 => u = .agg #[.string yk, .int .i64 yf, .int .i64 yt, .int .i64 yc, .int .i64 yg, .int .i64 yv, .int .i64 yz, .bool yb]
              | 41 => u = .bool ra
              | 42 => u = .bool ra
              | _ => True
            refine wp_region_relGW [(28, true)] R (fun a b => Below a.heap.size a b) (fun _ w => Below wz.heap.size wz w) (by kernel_rfl) (by kernel_rfl) (by kernel_rfl) (by kernel_rfl) ?mono (fun w => Below.refl _ _) ((Below.refl _ _).drew) ?gs ?step ?fin
            case mono =>
              intro sl u wx wy h hk
              match sl with
              | 0 | 1 | 2 | 3 | 4 | 5 | 6 | 7 | 8 | 9 | 10 | 11 | 12 | 13 | 14 | 15 | 16 | 17 | 18 | 19 | 20 | 21 | 22 | 23 | 24 | 25 | 26 | 27 | 28 | 29 | 30 | 31 | 32 | 33 | 34 | 35 | 36 | 37 | 38 | 39 | 40 | 41 | 42 | _ + 43 => exact h
            case gs =>
              intro p hp u w1 h
              simp only [List.mem_cons, List.not_mem_nil, or_false] at hp
              rcases hp with rfl <;> exact h
            case step =>
              intro j o ho
              match j, ho with
              | 0, ho =>
                cases ho
                intro V aa wx hV hdep hval hj hsm hr
                have e5 : aa.tmps.getD 5 undef = .int .i64 at2 := hsm 5 (by decide)
                rw [Array.getD_eq_getD_getElem?] at e5
                unfold Oper.wp
                simp only [execOp, Act.eval, Array.getD_eq_getD_getElem?, e5]
                go_simp
                first | exact ⟨_, rfl, rfl, Below.refl _ _⟩ | exact ⟨_, rfl, rfl, Below.refl _ _, hj⟩ | exact ⟨_, rfl, Below.refl _ _, hj⟩ | exact ⟨_, rfl, hj⟩
              | 1, ho =>
                cases ho
                intro V aa wx hV hdep hval hj hsm hr
                have e26 : aa.tmps.getD 26 undef = .int .i64 at2 := hr 26 (by decide) (by apply Array.mem_toList_iff.1; repeat (first | exact List.Mem.head _ | apply List.Mem.tail))
                rw [Array.getD_eq_getD_getElem?] at e26
                unfold Oper.wp
                simp only [execOp, Act.eval, Array.getD_eq_getD_getElem?, e26]
                go_simp
                first | exact ⟨_, rfl, rfl, Below.refl _ _⟩ | exact ⟨_, rfl, rfl, Below.refl _ _, hj⟩ | exact ⟨_, rfl, Below.refl _ _, hj⟩ | exact ⟨_, rfl, hj⟩
              | 2, ho =>
                cases ho
                intro V aa wx hV hdep hval hj hsm hr
                have e27 : aa.tmps.getD 27 undef = .bool true := hr 27 (by decide) (by apply Array.mem_toList_iff.1; repeat (first | exact List.Mem.head _ | apply List.Mem.tail))
                rw [Array.getD_eq_getD_getElem?] at e27
                unfold Oper.wp
                simp only [execOp, Act.eval, Array.getD_eq_getD_getElem?, e27]
                go_simp
                first | exact ⟨_, rfl, rfl, Below.refl _ _⟩ | exact ⟨_, rfl, rfl, Below.refl _ _, hj⟩ | exact ⟨_, rfl, Below.refl _ _, hj⟩ | exact ⟨_, rfl, hj⟩
              | 3, ho =>
                cases ho
                intro V aa wx hV hdep hval hj hsm hr
                have e0 : aa.tmps.getD 0 undef = .pointer (some ⟨p, 0, none⟩) := hsm 0 (by decide)
                rw [Array.getD_eq_getD_getElem?] at e0
                unfold Oper.wp
                simp only [execOp, Act.eval, Array.getD_eq_getD_getElem?, e0]
                go_simp
                first | exact ⟨_, rfl, rfl, Below.refl _ _⟩ | exact ⟨_, rfl, rfl, Below.refl _ _, hj⟩ | exact ⟨_, rfl, Below.refl _ _, hj⟩ | exact ⟨_, rfl, hj⟩
              | 4, ho =>
                cases ho
                intro V aa wx hV hdep hval hj hsm hr
                have e29 : aa.tmps.getD 29 undef = .pointer (some ⟨p, 0, none⟩) := hr 29 (by decide) (by apply Array.mem_toList_iff.1; repeat (first | exact List.Mem.head _ | apply List.Mem.tail))
                rw [Array.getD_eq_getD_getElem?] at e29
                unfold Oper.wp
                simp only [execOp, Act.eval, Array.getD_eq_getD_getElem?, e29]
                go_simp
                first | exact ⟨_, rfl, rfl, Below.refl _ _⟩ | exact ⟨_, rfl, rfl, Below.refl _ _, hj⟩ | exact ⟨_, rfl, Below.refl _ _, hj⟩ | exact ⟨_, rfl, hj⟩
              | 5, ho =>
                cases ho
                intro V aa wx hV hdep hval hj hsm hr
                have e30 : aa.tmps.getD 30 undef = .pointer (some ⟨p, 0, none⟩) := hr 30 (by decide) (by apply Array.mem_toList_iff.1; repeat (first | exact List.Mem.head _ | apply List.Mem.tail))
                rw [Array.getD_eq_getD_getElem?] at e30
                unfold Oper.wp
                simp only [execOp, Act.eval, Array.getD_eq_getD_getElem?, e30]
                go_simp
                first | exact ⟨_, rfl, rfl, Below.refl _ _⟩ | exact ⟨_, rfl, rfl, Below.refl _ _, hj⟩ | exact ⟨_, rfl, Below.refl _ _, hj⟩ | exact ⟨_, rfl, hj⟩
              | 6, ho =>
                cases ho
                intro V aa wx hV hdep hval hj hsm hr
                have e31 : aa.tmps.getD 31 undef = .pointer (some ⟨p, 0, none⟩) := hr 31 (by decide) (by apply Array.mem_toList_iff.1; repeat (first | exact List.Mem.head _ | apply List.Mem.tail))
                have x0 := HPC.out wx (HWZ.out.trans (hj.mono HWZ.out.size))
                rw [Array.getD_eq_getD_getElem?] at e31
                unfold Oper.wp
                simp only [execOp, Act.eval, Array.getD_eq_getD_getElem?, e31]
                go_simp
                first | exact ⟨_, rfl, rfl, Below.refl _ _⟩ | exact ⟨_, rfl, rfl, Below.refl _ _, hj⟩ | exact ⟨_, rfl, Below.refl _ _, hj⟩ | exact ⟨_, rfl, hj⟩
              | 7, ho =>
                cases ho
                intro V aa wx hV hdep hval hj hsm hr
                have e4 : aa.tmps.getD 4 undef = .int .i64 i := hsm 4 (by decide)
                rw [Array.getD_eq_getD_getElem?] at e4
                unfold Oper.wp
                simp only [execOp, Act.eval, Array.getD_eq_getD_getElem?, e4]
                go_simp
                first | exact ⟨_, rfl, rfl, Below.refl _ _⟩ | exact ⟨_, rfl, rfl, Below.refl _ _, hj⟩ | exact ⟨_, rfl, Below.refl _ _, hj⟩ | exact ⟨_, rfl, hj⟩
              | 8, ho =>
                cases ho
                intro V aa wx hV hdep hval hj hsm hr
                have e32 : aa.tmps.getD 32 undef = .slice (some ⟨gl, 0, none⟩) n capl := hr 32 (by decide) (by apply Array.mem_toList_iff.1; repeat (first | exact List.Mem.head _ | apply List.Mem.tail))
                have e33 : aa.tmps.getD 33 undef = .int .i64 i := hr 33 (by decide) (by apply Array.mem_toList_iff.1; repeat (first | exact List.Mem.head _ | apply List.Mem.tail))
                rw [Array.getD_eq_getD_getElem?] at e32
                rw [Array.getD_eq_getD_getElem?] at e33
                unfold Oper.wp
                simp only [execOp, Act.eval, Array.getD_eq_getD_getElem?, e32, e33]
                go_simp
                first | exact ⟨_, rfl, rfl, Below.refl _ _⟩ | exact ⟨_, rfl, rfl, Below.refl _ _, hj⟩ | exact ⟨_, rfl, Below.refl _ _, hj⟩ | exact ⟨_, rfl, hj⟩
              | 9, ho =>
                cases ho
                intro V aa wx hV hdep hval hj hsm hr
                have e34 : aa.tmps.getD 34 undef = .pointer (some ⟨gl, i * 8, none⟩) := hr 34 (by decide) (by apply Array.mem_toList_iff.1; repeat (first | exact List.Mem.head _ | apply List.Mem.tail))
                have hh := HLC.out wx (HWZ.out.trans (hj.mono HWZ.out.size))
                have x0 : wx.cell? ⟨gl, i * 8, none⟩ = some (.string mk) := hh 0 _ rfl
                have x1 : wx.cell? ⟨gl, i * 8 + 1, none⟩ = some (.int .i64 mf) := hh 1 _ rfl
                have x2 : wx.cell? ⟨gl, i * 8 + 2, none⟩ = some (.int .i64 mt) := hh 2 _ rfl
                have x3 : wx.cell? ⟨gl, i * 8 + 3, none⟩ = some (.int .i64 mc) := hh 3 _ rfl
                have x4 : wx.cell? ⟨gl, i * 8 + 4, none⟩ = some (.int .i64 mg) := hh 4 _ rfl
                have x5 : wx.cell? ⟨gl, i * 8 + 5, none⟩ = some (.int .i64 mv) := hh 5 _ rfl
                have x6 : wx.cell? ⟨gl, i * 8 + 6, none⟩ = some (.int .i64 mz) := hh 6 _ rfl
                have x7 : wx.cell? ⟨gl, i * 8 + 7, none⟩ = some (.bool false) := hh 7 _ rfl
                clear hh
                rw [Array.getD_eq_getD_getElem?] at e34
                unfold Oper.wp
                simp only [execOp, Act.eval, Array.getD_eq_getD_getElem?, e34]
                go_simp
                first | exact ⟨_, rfl, rfl, Below.refl _ _⟩ | exact ⟨_, rfl, rfl, Below.refl _ _, hj⟩ | exact ⟨_, rfl, Below.refl _ _, hj⟩ | exact ⟨_, rfl, hj⟩
              | 10, ho =>
                cases ho
                intro V aa wx hV hdep hval hj hsm hr
                have e3 : aa.tmps.getD 3 undef = .slice (some ⟨g, 0, none⟩) m oc := hsm 3 (by decide)
                rw [Array.getD_eq_getD_getElem?] at e3
                unfold Oper.wp
                simp only [execOp, Act.eval, Array.getD_eq_getD_getElem?, e3]
                go_simp
                first | exact ⟨_, rfl, rfl, Below.refl _ _⟩ | exact ⟨_, rfl, rfl, Below.refl _ _, hj⟩ | exact ⟨_, rfl, Below.refl _ _, hj⟩ | exact ⟨_, rfl, hj⟩
              | 11, ho =>
                cases ho
                intro V aa wx hV hdep hval hj hsm hr
                have e5 : aa.tmps.getD 5 undef = .int .i64 at2 := hsm 5 (by decide)
                rw [Array.getD_eq_getD_getElem?] at e5
                unfold Oper.wp
                simp only [execOp, Act.eval, Array.getD_eq_getD_getElem?, e5]
                go_simp
                first | exact ⟨_, rfl, rfl, Below.refl _ _⟩ | exact ⟨_, rfl, rfl, Below.refl _ _, hj⟩ | exact ⟨_, rfl, Below.refl _ _, hj⟩ | exact ⟨_, rfl, hj⟩
              | 12, ho =>
                cases ho
                intro V aa wx hV hdep hval hj hsm hr
                have e37 : aa.tmps.getD 37 undef = .int .i64 at2 := hr 37 (by decide) (by apply Array.mem_toList_iff.1; repeat (first | exact List.Mem.head _ | apply List.Mem.tail))
                rw [Array.getD_eq_getD_getElem?] at e37
                unfold Oper.wp
                simp only [execOp, Act.eval, Array.getD_eq_getD_getElem?, e37]
                go_simp
                first | exact ⟨_, rfl, rfl, Below.refl _ _⟩ | exact ⟨_, rfl, rfl, Below.refl _ _, hj⟩ | exact ⟨_, rfl, Below.refl _ _, hj⟩ | exact ⟨_, rfl, hj⟩
              | 13, ho =>
                cases ho
                intro V aa wx hV hdep hval hj hsm hr
                have e36 : aa.tmps.getD 36 undef = .slice (some ⟨g, 0, none⟩) m oc := hr 36 (by decide) (by apply Array.mem_toList_iff.1; repeat (first | exact List.Mem.head _ | apply List.Mem.tail))
                have e38 : aa.tmps.getD 38 undef = .int .i64 q := hr 38 (by decide) (by apply Array.mem_toList_iff.1; repeat (first | exact List.Mem.head _ | apply List.Mem.tail))
                rw [Array.getD_eq_getD_getElem?] at e36
                rw [Array.getD_eq_getD_getElem?] at e38
                unfold Oper.wp
                simp only [execOp, Act.eval, Array.getD_eq_getD_getElem?, e36, e38]
                go_simp
                first | exact ⟨_, rfl, rfl, Below.refl _ _⟩ | exact ⟨_, rfl, rfl, Below.refl _ _, hj⟩ | exact ⟨_, rfl, Below.refl _ _, hj⟩ | exact ⟨_, rfl, hj⟩
              | 14, ho =>
                cases ho
                intro V aa wx hV hdep hval hj hsm hr
                have e39 : aa.tmps.getD 39 undef = .pointer (some ⟨g, q * 8, none⟩) := hr 39 (by decide) (by apply Array.mem_toList_iff.1; repeat (first | exact List.Mem.head _ | apply List.Mem.tail))
                have hh := HYC.out wx hj
                have x0 : wx.cell? ⟨g, q * 8, none⟩ = some (.string yk) := hh 0 _ rfl
                have x1 : wx.cell? ⟨g, q * 8 + 1, none⟩ = some (.int .i64 yf) := hh 1 _ rfl
                have x2 : wx.cell? ⟨g, q * 8 + 2, none⟩ = some (.int .i64 yt) := hh 2 _ rfl
                have x3 : wx.cell? ⟨g, q * 8 + 3, none⟩ = some (.int .i64 yc) := hh 3 _ rfl
                have x4 : wx.cell? ⟨g, q * 8 + 4, none⟩ = some (.int .i64 yg) := hh 4 _ rfl
                have x5 : wx.cell? ⟨g, q * 8 + 5, none⟩ = some (.int .i64 yv) := hh 5 _ rfl
                have x6 : wx.cell? ⟨g, q * 8 + 6, none⟩ = some (.int .i64 yz) := hh 6 _ rfl
                have x7 : wx.cell? ⟨g, q * 8 + 7, none⟩ = some (.bool yb) := hh 7 _ rfl
                clear hh
                rw [Array.getD_eq_getD_getElem?] at e39
                unfold Oper.wp
                simp only [execOp, Act.eval, Array.getD_eq_getD_getElem?, e39]
                go_simp
                first | exact ⟨_, rfl, rfl, Below.refl _ _⟩ | exact ⟨_, rfl, rfl, Below.refl _ _, hj⟩ | exact ⟨_, rfl, Below.refl _ _, hj⟩ | exact ⟨_, rfl, hj⟩
              | 15, ho =>
                cases ho
                intro V aa wx hV hdep hval hj hsm hr
                have e35 : aa.tmps.getD 35 undef = .agg #[.string mk, .int .i64 mf, .int .i64 mt, .int .i64 mc, .int .i64 mg, .int .i64 mv, .int .i64 mz, .bool false] := hr 35 (by decide) (by apply Array.mem_toList_iff.1; repeat (first | exact List.Mem.head _ | apply List.Mem.tail))
                have e40 : aa.tmps.getD 40 undef = .agg #[.string yk, .int .i64 yf, .int .i64 yt, .int .i64 yc, .int .i64 yg, .int .i64 yv, .int .i64 yz, .bool yb] := hr 40 (by decide) (by apply Array.mem_toList_iff.1; repeat (first | exact List.Mem.head _ | apply List.Mem.tail))
                rw [Array.getD_eq_getD_getElem?] at e35
                rw [Array.getD_eq_getD_getElem?] at e40
                unfold Oper.wp
                simp only [execOp, Act.eval, Array.getD_eq_getD_getElem?, e35, e40]
                go_simp
                refine (AH.out wx).mono ?_
                rintro e w' ⟨rfl, hb⟩
                exact ⟨_, rfl, rfl, hb, hj.trans (hb.mono hj.size)⟩
              | 16, ho =>
                cases ho
                intro V aa wx hV hdep hval hj hsm hr
                have e28 : aa.tmps.getD 28 undef = .bool true := hr 28 (by decide) (by apply Array.mem_toList_iff.1; repeat (first | exact List.Mem.head _ | apply List.Mem.tail))
                have e41 : aa.tmps.getD 41 undef = .bool ra := hr 41 (by decide) (by apply Array.mem_toList_iff.1; repeat (first | exact List.Mem.head _ | apply List.Mem.tail))
                rw [Array.getD_eq_getD_getElem?] at e28
                rw [Array.getD_eq_getD_getElem?] at e41
                unfold Oper.wp
                simp only [execOp, Act.eval, Array.getD_eq_getD_getElem?, e28, e41]
                go_simp
                first | exact ⟨_, rfl, rfl, Below.refl _ _⟩ | exact ⟨_, rfl, rfl, Below.refl _ _, hj⟩ | exact ⟨_, rfl, Below.refl _ _, hj⟩ | exact ⟨_, rfl, hj⟩
              | _ + 17, ho => cases ho
            case fin =>
              intro ff V wx hV hj hr
              have e42 : ff 42 = .bool ra := hr 42 (by decide)
              have HJ := hide hj
              clear hV hr hj
              simp only [putAll, slotsOf, List.filterMap_cons, List.filterMap_nil, List.foldl_cons, List.foldl_nil, Act.put, e42]
              simp only [List.setIfInBounds_toArray, List.set_cons_succ, List.set_cons_zero]
              go_wp2_with fail
              have hh := HA2.out
              subst hh
              go_meet
              exact ⟨by rw [HHO.out], HJ⟩
        obtain ⟨rfl, HBC⟩ := hcut
        rename World => wc
        cases hb with
        | true =>
          obtain ⟨hk, hlt⟩ := of_decide_eq_true HHB.out
          obtain ⟨k, hk⟩ : ∃ k, at_ = k + 1 := ⟨at_ - 1, by omega⟩
          subst hk
          rw [Nat.add_sub_cancel] at hlt
          have HAT2 := hide (show ∀ j y, k ≤ j → K[j]? = some y → chLt (Msg.ch ⟨mk, mf, mt, mc, mg, mv, mz, false⟩) y.ch from fun j y hj hy => by
            rcases Nat.eq_or_lt_of_le hj with e | e
            · subst e
              rw [List.getD_eq_getElem?_getD, hy] at hlt
              exact hlt
            · exact HAT.out j y e hy)
          have hkI : ((k + 1 : Nat) : Int) - 1 = (k : Int) := by omega
          have HKL := hide (show k ≤ m by have := HATM.out; omega)
          have HBC2 := hide (HBZ.out.trans (HBC.out.mono HBZ.out.size))
          have hkm : k ≤ m := HKL.out
          clear hlt hat
          go_wp2_with fail
          go_roundw
          case rel => exact ⟨k, HKL.out, by go_num, HAT2, HBC2⟩
          case measure => simp [RowKit.intOf] <;> omega
        | false =>
          have HBLW := hide (show ∀ k y, k + 1 = at_ → K[k]? = some y → ¬ chLt (Msg.ch ⟨mk, mf, mt, mc, mg, mv, mz, false⟩) y.ch from fun k y hk hy hlt => of_decide_eq_false HHB.out ⟨by omega, by rw [show at_ - 1 = k by omega, List.getD_eq_getElem?_getD, hy]; exact hlt⟩)
          have HIL2 := hide (show IsLeft (l.take (i + 1)) (K.take at_ ++ ⟨mk, mf, mt, mc, mg, mv, mz, false⟩ :: K.drop at_) by rw [HTS.out]; exact isLeft_put HIL.out rfl (by rw [HKM.out]; exact HATM.out) HAT.out HBLW.out)
          have HOC := hide (own_belowR HOW.out (HBZ.out.trans (HBC.out.mono HBZ.out.size)))
          have HWC := hide (HWZ.out.trans (HBC.out.mono HWZ.out.size))
          have hatI : (at_ : Int) ≤ (m : Int) := by omega
          have hat0 : (0 : Int) ≤ (at_ : Int) := by omega
          have hmoc : m ≤ oc := own_cap HOC.out
          have hatc : (at_ : Int) ≤ (oc : Int) := by omega
          go_upto_region 9 with (fail)
          go_cut [6] from 45 to 49 (fun v6 wx => ∃ A6 c6, v6 = .slice A6 (m - at_) c6 ∧ Hid (wx.ownsRow wc.heap.size 31 8 (.slice A6 (m - at_) c6) (m - at_) (msgCs (K.drop at_))) ∧ Hid (Below wc.heap.size wc wx))
          case first =>
            rcases HO.out with ⟨hO, hm0, hc0⟩ | ⟨g, hO, hgm, hgc⟩
            · subst hO
              clear hc0
              have hrd : Reads wc wc.heap.size 8 none (m - at_) (msgCs (K.drop at_)) := ⟨by rw [msgCs_len, List.length_drop, HKM.out], fun h => absurd h (by omega)⟩
              clear hm0
              obtain ⟨A1, c1, w1, hrun, hown, hb1⟩ := copy_rest wc none (oc - at_) (m - at_) (K.drop at_) (by rw [List.length_drop, HKM.out]) hrd (by omega)
              have RUN := hide hrun
              have HO1 := hide hown
              have HB1 := hide hb1
              clear hrun hown hb1 hrd
              go_wp2_with (at_builtin; refine Lib.wpList_append_run _ rfl _ _ 27 27 rfl _ _ rfl rfl _ _ RUN.out ?_)
              go_meet
              exact ⟨A1, c1, rfl, HO1, HB1⟩
            · subst hO
              clear hgm hgc
              rcases Nat.lt_or_ge at_ oc with hlt | hge
              · have hne : ¬ oc = at_ := by omega
                have hrd := reads_drop HOC.out HKM.out HATM.out
                clear hlt
                obtain ⟨A1, c1, w1, hrun, hown, hb1⟩ := copy_rest wc (some ⟨g, at_ * 8, none⟩) (oc - at_) (m - at_) (K.drop at_) (by rw [List.length_drop, HKM.out]) hrd (by omega)
                have RUN := hide hrun
                have HO1 := hide hown
                have HB1 := hide hb1
                clear hrun hown hb1 hrd
                go_wp2_with (at_builtin; refine Lib.wpList_append_run _ rfl _ _ 27 27 rfl _ _ rfl rfl _ _ RUN.out ?_)
                go_meet
                exact ⟨A1, c1, rfl, HO1, HB1⟩
              · have hne : at_ = oc := by omega
                subst hne
                have hrd : Reads wc wc.heap.size 8 (some ⟨g, 0, none⟩) (m - at_) (msgCs (K.drop at_)) := ⟨by rw [msgCs_len, List.length_drop, HKM.out], fun h => absurd h (by omega)⟩
                clear hge hmoc
                obtain ⟨A1, c1, w1, hrun, hown, hb1⟩ := copy_rest wc (some ⟨g, 0, none⟩) 0 (m - at_) (K.drop at_) (by rw [List.length_drop, HKM.out]) hrd (by omega)
                have RUN := hide hrun
                have HO1 := hide hown
                have HB1 := hide hb1
                clear hrun hown hb1 hrd
                go_wp2_with (at_builtin; refine Lib.wpList_append_run _ rfl _ _ 27 27 rfl _ _ rfl rfl _ _ RUN.out ?_)
                go_meet
                exact ⟨A1, c1, rfl, HO1, HB1⟩
          obtain ⟨A6, c6, rfl, HO6, HBD⟩ := hcut
          rename World => wd
          have HWD := hide (HWC.out.trans (HBD.out.mono HWC.out.size))
          have HOD := hide (own_belowR HOC.out HBD.out)
          obtain ⟨ROW, hrow⟩ : ∃ z, (Value.slice O m oc).ownBlock = z := ⟨_, rfl⟩
          have HROW := hide hrow
          have HRL := hide (show ∀ gg, ROW = some gg → w.heap.size ≤ gg ∧ gg < wc.heap.size from fun gg hgg => by
            have := own_block HOC.out (hrow.trans hgg)
            exact ⟨this.1, this.2.1⟩)
          have HGK := hide (show ∀ wx, wd.grownBy wx ROW → Below w.heap.size w wx from fun wx hk => HWD.out.grown hk HWD.out.size fun gg hgg => (HRL.out gg hgg).1)
          have HWCD := hide (show wc.heap.size ≤ wd.heap.size from HBD.out.size)
          clear hrow
          rcases HO.out with ⟨hO, hm0, hc0⟩ | ⟨g, hO, hgm, hgc⟩
          · subst hO
            clear hm0 hc0
            go_upto_region 10 with (fail)
            let R : Nat → Value → World → Prop := fun sl u w1 => match sl with
              | 50 => u = .slice none m oc
              | 51 => u = .int .i64 at_
              | 52 => u = .slice none at_ oc
              | 53 => u = .pointer (some ⟨p, 0, none⟩)
              | 54 => u = .pointer (some ⟨p, 0, none⟩)
              | 55 => u = .pointer (some ⟨p, 0, none⟩)
              | 56 => u = .slice (some ⟨gl, 0, none⟩) n capl
              | 57 => u = .int .i64 i
              | 58 => u = .pointer (some ⟨gl, i * 8, none⟩)
              | 59 => u = .agg #[.string mk, .int .i64 mf, .int .i64 mt, .int .i64 mc, .int .i64 mg, .int .i64 mv, .int .i64 mz, .bool false]
              | 60 => ∃ b, u = .slice (some ⟨b, 0, none⟩) 1 1 ∧ wd.heap.size ≤ b ∧ Blk w1 b 31 #[.string mk, .int .i64 mf, .int .i64 mt, .int .i64 mc, .int .i64 mg, .int .i64 mv, .int .i64 mz, .bool false]
              | 62 => u = .slice A6 (m - at_) c6
              | _ => True
            let KW : World → World → Prop := fun a b => a.grownBy b ROW
            let J : Option Value → World → Prop := fun b w1 => match b with
              | none => w1.ownsRow w.heap.size 31 8 (.slice none m oc) m (msgCs K)
              | some u => w1.ownsRow w.heap.size 31 8 u (at_ + 1) (msgCs (K.take at_ ++ [⟨mk, mf, mt, mc, mg, mv, mz, false⟩]))
            have hKB : ∀ x y, Below x.heap.size x y → KW x y := fun _ _ hb => grown_of_below hb
            have hJB : ∀ b x y, J b x → Below x.heap.size x y → J b y := fun b x y hj hb => by
              cases b with
              | none => exact own_belowR hj hb
              | some u => exact own_belowR hj hb
            refine wp_region_relJ 13 61 R KW J (by kernel_rfl) (by kernel_rfl) (by kernel_rfl) (by kernel_rfl) (by kernel_rfl) (fun _ _ _ h1 h2 => gtrans h1 h2) (hKB _ _ (Below.refl _ _).drew) HOD.out.drew ?mono ?step ?fin
            case mono =>
              intro sl u wx wy h hk
              match sl with
              | 60 =>
                obtain ⟨b, h1, h2, h3⟩ := h
                refine ⟨b, h1, h2, h3.grown hk fun e => ?_⟩
                have := HRL.out b e.symm
                have := HWCD.out
                omega
              | 0 | 1 | 2 | 3 | 4 | 5 | 6 | 7 | 8 | 9 | 10 | 11 | 12 | 13 | 14 | 15 | 16 | 17 | 18 | 19 | 20 | 21 | 22 | 23 | 24 | 25 | 26 | 27 | 28 | 29 | 30 | 31 | 32 | 33 | 34 | 35 | 36 | 37 | 38 | 39 | 40 | 41 | 42 | 43 | 44 | 45 | 46 | 47 | 48 | 49 | 50 | 51 | 52 | 53 | 54 | 55 | 56 | 57 | 58 | 59 | 61 | 62 | _ + 63 => exact h
            case step =>
              intro op hop
              simp only [List.take, List.mem_cons, List.not_mem_nil, or_false] at hop
              rcases hop with rfl | rfl | rfl | rfl | rfl | rfl | rfl | rfl | rfl | rfl | rfl | rfl | rfl
              · refine ⟨fun h => absurd h (by decide), fun _ b => stepJ_of hKB hJB fun a w1 hk hj hsm hr => ?_⟩
                have e3 : a.tmps.getD 3 undef = .slice none m oc := hsm 3 (by decide)
                rw [Array.getD_eq_getD_getElem?] at e3
                unfold Oper.wp
                simp only [execOp, Act.eval, Array.getD_eq_getD_getElem?, e3]
                go_simp
                first | exact ⟨_, rfl, rfl, Below.refl _ _⟩ | exact ⟨_, rfl, trivial, Below.refl _ _⟩ | exact ⟨_, rfl, Below.refl _ _⟩
              · refine ⟨fun h => absurd h (by decide), fun _ b => stepJ_of hKB hJB fun a w1 hk hj hsm hr => ?_⟩
                have e5 : a.tmps.getD 5 undef = .int .i64 at_ := hsm 5 (by decide)
                rw [Array.getD_eq_getD_getElem?] at e5
                unfold Oper.wp
                simp only [execOp, Act.eval, Array.getD_eq_getD_getElem?, e5]
                go_simp
                first | exact ⟨_, rfl, rfl, Below.refl _ _⟩ | exact ⟨_, rfl, trivial, Below.refl _ _⟩ | exact ⟨_, rfl, Below.refl _ _⟩
              · refine ⟨fun h => absurd h (by decide), fun _ b => stepJ_of hKB hJB fun a w1 hk hj hsm hr => ?_⟩
                have e50 : a.tmps.getD 50 undef = .slice none m oc := hr 50 (by decide) (by apply Array.mem_toList_iff.1; repeat (first | exact List.Mem.head _ | apply List.Mem.tail))
                have e51 : a.tmps.getD 51 undef = .int .i64 at_ := hr 51 (by decide) (by apply Array.mem_toList_iff.1; repeat (first | exact List.Mem.head _ | apply List.Mem.tail))
                rw [Array.getD_eq_getD_getElem?] at e50
                rw [Array.getD_eq_getD_getElem?] at e51
                unfold Oper.wp
                simp only [execOp, Act.eval, Array.getD_eq_getD_getElem?, e50, e51]
                go_simp
                first | exact ⟨_, rfl, rfl, Below.refl _ _⟩ | exact ⟨_, rfl, trivial, Below.refl _ _⟩ | exact ⟨_, rfl, Below.refl _ _⟩
              · refine ⟨fun h => absurd h (by decide), fun _ b => stepJ_of hKB hJB fun a w1 hk hj hsm hr => ?_⟩
                have e0 : a.tmps.getD 0 undef = .pointer (some ⟨p, 0, none⟩) := hsm 0 (by decide)
                rw [Array.getD_eq_getD_getElem?] at e0
                unfold Oper.wp
                simp only [execOp, Act.eval, Array.getD_eq_getD_getElem?, e0]
                go_simp
                first | exact ⟨_, rfl, rfl, Below.refl _ _⟩ | exact ⟨_, rfl, trivial, Below.refl _ _⟩ | exact ⟨_, rfl, Below.refl _ _⟩
              · refine ⟨fun h => absurd h (by decide), fun _ b => stepJ_of hKB hJB fun a w1 hk hj hsm hr => ?_⟩
                have e53 : a.tmps.getD 53 undef = .pointer (some ⟨p, 0, none⟩) := hr 53 (by decide) (by apply Array.mem_toList_iff.1; repeat (first | exact List.Mem.head _ | apply List.Mem.tail))
                rw [Array.getD_eq_getD_getElem?] at e53
                unfold Oper.wp
                simp only [execOp, Act.eval, Array.getD_eq_getD_getElem?, e53]
                go_simp
                first | exact ⟨_, rfl, rfl, Below.refl _ _⟩ | exact ⟨_, rfl, trivial, Below.refl _ _⟩ | exact ⟨_, rfl, Below.refl _ _⟩
              · refine ⟨fun h => absurd h (by decide), fun _ b => stepJ_of hKB hJB fun a w1 hk hj hsm hr => ?_⟩
                have e54 : a.tmps.getD 54 undef = .pointer (some ⟨p, 0, none⟩) := hr 54 (by decide) (by apply Array.mem_toList_iff.1; repeat (first | exact List.Mem.head _ | apply List.Mem.tail))
                rw [Array.getD_eq_getD_getElem?] at e54
                unfold Oper.wp
                simp only [execOp, Act.eval, Array.getD_eq_getD_getElem?, e54]
                go_simp
                first | exact ⟨_, rfl, rfl, Below.refl _ _⟩ | exact ⟨_, rfl, trivial, Below.refl _ _⟩ | exact ⟨_, rfl, Below.refl _ _⟩
              · refine ⟨fun h => absurd h (by decide), fun _ b => stepJ_of hKB hJB fun a w1 hk hj hsm hr => ?_⟩
                have e55 : a.tmps.getD 55 undef = .pointer (some ⟨p, 0, none⟩) := hr 55 (by decide) (by apply Array.mem_toList_iff.1; repeat (first | exact List.Mem.head _ | apply List.Mem.tail))
                have x0 := HPC.out w1 (HGK.out w1 hk)
                rw [Array.getD_eq_getD_getElem?] at e55
                unfold Oper.wp
                simp only [execOp, Act.eval, Array.getD_eq_getD_getElem?, e55]
                go_simp
                first | exact ⟨_, rfl, rfl, Below.refl _ _⟩ | exact ⟨_, rfl, trivial, Below.refl _ _⟩ | exact ⟨_, rfl, Below.refl _ _⟩
              · refine ⟨fun h => absurd h (by decide), fun _ b => stepJ_of hKB hJB fun a w1 hk hj hsm hr => ?_⟩
                have e4 : a.tmps.getD 4 undef = .int .i64 i := hsm 4 (by decide)
                rw [Array.getD_eq_getD_getElem?] at e4
                unfold Oper.wp
                simp only [execOp, Act.eval, Array.getD_eq_getD_getElem?, e4]
                go_simp
                first | exact ⟨_, rfl, rfl, Below.refl _ _⟩ | exact ⟨_, rfl, trivial, Below.refl _ _⟩ | exact ⟨_, rfl, Below.refl _ _⟩
              · refine ⟨fun h => absurd h (by decide), fun _ b => stepJ_of hKB hJB fun a w1 hk hj hsm hr => ?_⟩
                have e56 : a.tmps.getD 56 undef = .slice (some ⟨gl, 0, none⟩) n capl := hr 56 (by decide) (by apply Array.mem_toList_iff.1; repeat (first | exact List.Mem.head _ | apply List.Mem.tail))
                have e57 : a.tmps.getD 57 undef = .int .i64 i := hr 57 (by decide) (by apply Array.mem_toList_iff.1; repeat (first | exact List.Mem.head _ | apply List.Mem.tail))
                rw [Array.getD_eq_getD_getElem?] at e56
                rw [Array.getD_eq_getD_getElem?] at e57
                unfold Oper.wp
                simp only [execOp, Act.eval, Array.getD_eq_getD_getElem?, e56, e57]
                go_simp
                first | exact ⟨_, rfl, rfl, Below.refl _ _⟩ | exact ⟨_, rfl, trivial, Below.refl _ _⟩ | exact ⟨_, rfl, Below.refl _ _⟩
              · refine ⟨fun h => absurd h (by decide), fun _ b => stepJ_of hKB hJB fun a w1 hk hj hsm hr => ?_⟩
                have e58 : a.tmps.getD 58 undef = .pointer (some ⟨gl, i * 8, none⟩) := hr 58 (by decide) (by apply Array.mem_toList_iff.1; repeat (first | exact List.Mem.head _ | apply List.Mem.tail))
                have hh := HLC.out w1 (HGK.out w1 hk)
                have x0 : w1.cell? ⟨gl, i * 8, none⟩ = some (.string mk) := hh 0 _ rfl
                have x1 : w1.cell? ⟨gl, i * 8 + 1, none⟩ = some (.int .i64 mf) := hh 1 _ rfl
                have x2 : w1.cell? ⟨gl, i * 8 + 2, none⟩ = some (.int .i64 mt) := hh 2 _ rfl
                have x3 : w1.cell? ⟨gl, i * 8 + 3, none⟩ = some (.int .i64 mc) := hh 3 _ rfl
                have x4 : w1.cell? ⟨gl, i * 8 + 4, none⟩ = some (.int .i64 mg) := hh 4 _ rfl
                have x5 : w1.cell? ⟨gl, i * 8 + 5, none⟩ = some (.int .i64 mv) := hh 5 _ rfl
                have x6 : w1.cell? ⟨gl, i * 8 + 6, none⟩ = some (.int .i64 mz) := hh 6 _ rfl
                have x7 : w1.cell? ⟨gl, i * 8 + 7, none⟩ = some (.bool false) := hh 7 _ rfl
                clear hh
                rw [Array.getD_eq_getD_getElem?] at e58
                unfold Oper.wp
                simp only [execOp, Act.eval, Array.getD_eq_getD_getElem?, e58]
                go_simp
                first | exact ⟨_, rfl, rfl, Below.refl _ _⟩ | exact ⟨_, rfl, trivial, Below.refl _ _⟩ | exact ⟨_, rfl, Below.refl _ _⟩
              · refine ⟨fun h => absurd h (by decide), fun _ b => stepJ_of hKB hJB fun a w1 hk hj hsm hr => ?_⟩
                have e59 : a.tmps.getD 59 undef = .agg #[.string mk, .int .i64 mf, .int .i64 mt, .int .i64 mc, .int .i64 mg, .int .i64 mv, .int .i64 mz, .bool false] := hr 59 (by decide) (by apply Array.mem_toList_iff.1; repeat (first | exact List.Mem.head _ | apply List.Mem.tail))
                have hsz := hk.size
                rw [Array.getD_eq_getD_getElem?] at e59
                unfold Oper.wp
                simp only [execOp, Act.eval, Array.getD_eq_getD_getElem?, e59]
                go_simp
                exact ⟨_, rfl, ⟨w1.heap.size, rfl, hsz, Blk.new w1 31 _⟩, (Below.refl _ _).alloc (Nat.le_refl _) _⟩
              · refine ⟨fun _ a w1 hk hj hsm hr => ?_, fun h => absurd rfl h⟩
                have e52 : a.tmps.getD 52 undef = .slice none at_ oc := hr 52 (by decide) (by apply Array.mem_toList_iff.1; repeat (first | exact List.Mem.head _ | apply List.Mem.tail))
                have r60 := hr 60 (by decide) (by apply Array.mem_toList_iff.1; repeat (first | exact List.Mem.head _ | apply List.Mem.tail))
                obtain ⟨b, e60, hb, hbb⟩ := r60
                have hj : w1.ownsRow w.heap.size 31 8 (.slice none m oc) m (msgCs K) := hj
                have hrd : Reads w1 w1.heap.size 8 (some ⟨b, 0, none⟩) 1 (msgCs [⟨mk, mf, mt, mc, mg, mv, mz, false⟩]) := ⟨rfl, fun _ => ⟨_, rfl, hbb.lt, fun j u hu => by rw [add_lit, hbb.cell]; simpa [msgCs, msgC] using hu⟩⟩
                obtain ⟨A1, c1, w'', hrun, hown', hgb⟩ := push_ms w1 w.heap.size none oc at_ _ (some ⟨b, 0, none⟩) 1 1 [⟨mk, mf, mt, mc, mg, mv, mz, false⟩] rfl (own_cut hj HATM.out) hrd (Nat.le_trans HWD.out.size hk.size) (by have := HATM.out; have := HMB.out; omega) (by decide)
                rw [msgCs_take, ← msgCs_app] at hown'
                have hrw : (Value.slice none at_ oc).ownBlock = ROW := HROW.out
                rw [hrw] at hgb
                exact Lib.wp_append_run w1 (.tmp 52) (.tmp 60) 27 27 rfl _ _ e52 e60 _ w'' hrun ⟨_, rfl, fun t ht => by cases ht; exact True.intro, hgb, hown'⟩
              · refine ⟨fun h => absurd h (by decide), fun _ b => stepJ_of hKB hJB fun a w1 hk hj hsm hr => ?_⟩
                have e6 : a.tmps.getD 6 undef = .slice A6 (m - at_) c6 := hsm 6 (by decide)
                rw [Array.getD_eq_getD_getElem?] at e6
                unfold Oper.wp
                simp only [execOp, Act.eval, Array.getD_eq_getD_getElem?, e6]
                go_simp
                first | exact ⟨_, rfl, rfl, Below.refl _ _⟩ | exact ⟨_, rfl, trivial, Below.refl _ _⟩ | exact ⟨_, rfl, Below.refl _ _⟩
            case fin =>
              intro ff w9 hk hj hr
              have hj : w9.ownsRow w.heap.size 31 8 (ff 61) (at_ + 1) (msgCs (K.take at_ ++ [⟨mk, mf, mt, mc, mg, mv, mz, false⟩])) := hj
              have f62 : ff 62 = .slice A6 (m - at_) c6 := hr 62 (by decide)
              obtain ⟨A1, c1, f61⟩ := own_form hj
              rw [f61] at hj
              have h6 : w9.ownsRow wc.heap.size 31 8 (.slice A6 (m - at_) c6) (m - at_) (msgCs (K.drop at_)) := own_gr HO6.out hk fun gg hgg => (HRL.out gg hgg).2
              have hw9 : Below w.heap.size w w9 := HGK.out w9 hk
              obtain ⟨A2, c2, w10, hrun, hown, hgr⟩ := push_ms w9 w.heap.size A1 c1 (at_ + 1) _ A6 c6 (m - at_) (K.drop at_) (by rw [List.length_drop, HKM.out]) hj (Reads.of_own h6) hw9.size (by have := HATM.out; have := HMB.out; omega) (by have := HMB.out; omega)
              rw [← msgCs_app, List.append_assoc, List.singleton_append] at hown
              have HB10 := hide (hw9.grown hgr hw9.size fun gg hgg => (own_block hj hgg).1)
              have HOW2 := hide hown
              have HKM2 := hide (show (K.take at_ ++ ⟨mk, mf, mt, mc, mg, mv, mz, false⟩ :: K.drop at_).length = at_ + 1 + (m - at_) by
                rw [List.length_append, List.length_cons, List.length_take, List.length_drop, HKM.out]
                have := HATM.out
                omega)
              have HO2 := hide (show (A2 = none ∧ at_ + 1 + (m - at_) = 0 ∧ c2 = 0) ∨ ∃ g, A2 = some ⟨g, 0, none⟩ ∧ 0 < at_ + 1 + (m - at_) ∧ at_ + 1 + (m - at_) ≤ c2 from .inr (by
                obtain ⟨g2, e2, _, _, _, _, hcc, _⟩ := own_cell hown (by omega)
                exact ⟨g2, e2, by omega, hcc⟩))
              have RUN := hide hrun
              clear hj h6 hw9 hrun hown hgr hk hr
              simp only [putAll, slotsOf, List.take_succ_cons, List.take_zero, List.drop_succ_cons, List.drop_zero, List.filterMap_cons, List.filterMap_nil, List.foldl_cons, List.foldl_nil, Act.put, f61, f62]
              simp only [List.setIfInBounds_toArray, List.set_cons_succ, List.set_cons_zero]
              clear f61 f62
              go_wp2_with (at_builtin; refine Lib.wpList_append_run _ rfl _ _ 27 27 rfl _ _ rfl rfl _ _ RUN.out ?_)
              go_roundw
              case rel => exact ⟨i + 1, K.take at_ ++ ⟨mk, mf, mt, mc, mg, mv, mz, false⟩ :: K.drop at_, A2, c2, at_ + 1 + (m - at_), HLT.out, by go_num, rfl, HKM2, HIL2, HO2, HOW2, HB10⟩
              case measure => have := HLT.out; simp [RowKit.intOf] <;> omega
          · subst hO
            have hoc0 : ¬ oc = 0 := by omega
            clear hgm hgc
            go_upto_region 10 with (fail)
            let R : Nat → Value → World → Prop := fun sl u w1 => match sl with
              | 50 => u = .slice (some ⟨g, 0, none⟩) m oc
              | 51 => u = .int .i64 at_
              | 52 => u = .slice (some ⟨g, 0, none⟩) at_ oc
              | 53 => u = .pointer (some ⟨p, 0, none⟩)
              | 54 => u = .pointer (some ⟨p, 0, none⟩)
              | 55 => u = .pointer (some ⟨p, 0, none⟩)
              | 56 => u = .slice (some ⟨gl, 0, none⟩) n capl
              | 57 => u = .int .i64 i
              | 58 => u = .pointer (some ⟨gl, i * 8, none⟩)
              | 59 => u = .agg #[.string mk, .int .i64 mf, .int .i64 mt, .int .i64 mc, .int .i64 mg, .int .i64 mv, .int .i64 mz, .bool false]
              | 60 => ∃ b, u = .slice (some ⟨b, 0, none⟩) 1 1 ∧ wd.heap.size ≤ b ∧ Blk w1 b 31 #[.string mk, .int .i64 mf, .int .i64 mt, .int .i64 mc, .int .i64 mg, .int .i64 mv, .int .i64 mz, .bool false]
              | 62 => u = .slice A6 (m - at_) c6
              | _ => True
            let KW : World → World → Prop := fun a b => a.grownBy b ROW
            let J : Option Value → World → Prop := fun b w1 => match b with
              | none => w1.ownsRow w.heap.size 31 8 (.slice (some ⟨g, 0, none⟩) m oc) m (msgCs K)
              | some u => w1.ownsRow w.heap.size 31 8 u (at_ + 1) (msgCs (K.take at_ ++ [⟨mk, mf, mt, mc, mg, mv, mz, false⟩]))
            have hKB : ∀ x y, Below x.heap.size x y → KW x y := fun _ _ hb => grown_of_below hb
            have hJB : ∀ b x y, J b x → Below x.heap.size x y → J b y := fun b x y hj hb => by
              cases b with
              | none => exact own_belowR hj hb
              | some u => exact own_belowR hj hb
            refine wp_region_relJ 13 61 R KW J (by kernel_rfl) (by kernel_rfl) (by kernel_rfl) (by kernel_rfl) (by kernel_rfl) (fun _ _ _ h1 h2 => gtrans h1 h2) (hKB _ _ (Below.refl _ _).drew) HOD.out.drew ?mono ?step ?fin
            case mono =>
              intro sl u wx wy h hk
              match sl with
              | 60 =>
                obtain ⟨b, h1, h2, h3⟩ := h
                refine ⟨b, h1, h2, h3.grown hk fun e => ?_⟩
                have := HRL.out b e.symm
                have := HWCD.out
                omega
              | 0 | 1 | 2 | 3 | 4 | 5 | 6 | 7 | 8 | 9 | 10 | 11 | 12 | 13 | 14 | 15 | 16 | 17 | 18 | 19 | 20 | 21 | 22 | 23 | 24 | 25 | 26 | 27 | 28 | 29 | 30 | 31 | 32 | 33 | 34 | 35 | 36 | 37 | 38 | 39 | 40 | 41 | 42 | 43 | 44 | 45 | 46 | 47 | 48 | 49 | 50 | 51 | 52 | 53 | 54 | 55 | 56 | 57 | 58 | 59 | 61 | 62 | _ + 63 => exact h
            case step =>
              intro op hop
              simp only [List.take, List.mem_cons, List.not_mem_nil, or_false] at hop
              rcases hop with rfl | rfl | rfl | rfl | rfl | rfl | rfl | rfl | rfl | rfl | rfl | rfl | rfl
              · refine ⟨fun h => absurd h (by decide), fun _ b => stepJ_of hKB hJB fun a w1 hk hj hsm hr => ?_⟩
                have e3 : a.tmps.getD 3 undef = .slice (some ⟨g, 0, none⟩) m oc := hsm 3 (by decide)
                rw [Array.getD_eq_getD_getElem?] at e3
                unfold Oper.wp
                simp only [execOp, Act.eval, Array.getD_eq_getD_getElem?, e3]
                go_simp
                first | exact ⟨_, rfl, rfl, Below.refl _ _⟩ | exact ⟨_, rfl, trivial, Below.refl _ _⟩ | exact ⟨_, rfl, Below.refl _ _⟩
              · refine ⟨fun h => absurd h (by decide), fun _ b => stepJ_of hKB hJB fun a w1 hk hj hsm hr => ?_⟩
                have e5 : a.tmps.getD 5 undef = .int .i64 at_ := hsm 5 (by decide)
                rw [Array.getD_eq_getD_getElem?] at e5
                unfold Oper.wp
                simp only [execOp, Act.eval, Array.getD_eq_getD_getElem?, e5]
                go_simp
                first | exact ⟨_, rfl, rfl, Below.refl _ _⟩ | exact ⟨_, rfl, trivial, Below.refl _ _⟩ | exact ⟨_, rfl, Below.refl _ _⟩
              · refine ⟨fun h => absurd h (by decide), fun _ b => stepJ_of hKB hJB fun a w1 hk hj hsm hr => ?_⟩
                have e50 : a.tmps.getD 50 undef = .slice (some ⟨g, 0, none⟩) m oc := hr 50 (by decide) (by apply Array.mem_toList_iff.1; repeat (first | exact List.Mem.head _ | apply List.Mem.tail))
                have e51 : a.tmps.getD 51 undef = .int .i64 at_ := hr 51 (by decide) (by apply Array.mem_toList_iff.1; repeat (first | exact List.Mem.head _ | apply List.Mem.tail))
                rw [Array.getD_eq_getD_getElem?] at e50
                rw [Array.getD_eq_getD_getElem?] at e51
                unfold Oper.wp
                simp only [execOp, Act.eval, Array.getD_eq_getD_getElem?, e50, e51]
                go_simp
                first | exact ⟨_, rfl, rfl, Below.refl _ _⟩ | exact ⟨_, rfl, trivial, Below.refl _ _⟩ | exact ⟨_, rfl, Below.refl _ _⟩
              · refine ⟨fun h => absurd h (by decide), fun _ b => stepJ_of hKB hJB fun a w1 hk hj hsm hr => ?_⟩
                have e0 : a.tmps.getD 0 undef = .pointer (some ⟨p, 0, none⟩) := hsm 0 (by decide)
                rw [Array.getD_eq_getD_getElem?] at e0
                unfold Oper.wp
                simp only [execOp, Act.eval, Array.getD_eq_getD_getElem?, e0]
                go_simp
                first | exact ⟨_, rfl, rfl, Below.refl _ _⟩ | exact ⟨_, rfl, trivial, Below.refl _ _⟩ | exact ⟨_, rfl, Below.refl _ _⟩
              · refine ⟨fun h => absurd h (by decide), fun _ b => stepJ_of hKB hJB fun a w1 hk hj hsm hr => ?_⟩
                have e53 : a.tmps.getD 53 undef = .pointer (some ⟨p, 0, none⟩) := hr 53 (by decide) (by apply Array.mem_toList_iff.1; repeat (first | exact List.Mem.head _ | apply List.Mem.tail))
                rw [Array.getD_eq_getD_getElem?] at e53
                unfold Oper.wp
                simp only [execOp, Act.eval, Array.getD_eq_getD_getElem?, e53]
                go_simp
                first | exact ⟨_, rfl, rfl, Below.refl _ _⟩ | exact ⟨_, rfl, trivial, Below.refl _ _⟩ | exact ⟨_, rfl, Below.refl _ _⟩
              · refine ⟨fun h => absurd h (by decide), fun _ b => stepJ_of hKB hJB fun a w1 hk hj hsm hr => ?_⟩
                have e54 : a.tmps.getD 54 undef = .pointer (some ⟨p, 0, none⟩) := hr 54 (by decide) (by apply Array.mem_toList_iff.1; repeat (first | exact List.Mem.head _ | apply List.Mem.tail))
                rw [Array.getD_eq_getD_getElem?] at e54
                unfold Oper.wp
                simp only [execOp, Act.eval, Array.getD_eq_getD_getElem?, e54]
                go_simp
                first | exact ⟨_, rfl, rfl, Below.refl _ _⟩ | exact ⟨_, rfl, trivial, Below.refl _ _⟩ | exact ⟨_, rfl, Below.refl _ _⟩
              · refine ⟨fun h => absurd h (by decide), fun _ b => stepJ_of hKB hJB fun a w1 hk hj hsm hr => ?_⟩
                have e55 : a.tmps.getD 55 undef = .pointer (some ⟨p, 0, none⟩) := hr 55 (by decide) (by apply Array.mem_toList_iff.1; repeat (first | exact List.Mem.head _ | apply List.Mem.tail))
                have x0 := HPC.out w1 (HGK.out w1 hk)
                rw [Array.getD_eq_getD_getElem?] at e55
                unfold Oper.wp
                simp only [execOp, Act.eval, Array.getD_eq_getD_getElem?, e55]
                go_simp
                first | exact ⟨_, rfl, rfl, Below.refl _ _⟩ | exact ⟨_, rfl, trivial, Below.refl _ _⟩ | exact ⟨_, rfl, Below.refl _ _⟩
              · refine ⟨fun h => absurd h (by decide), fun _ b => stepJ_of hKB hJB fun a w1 hk hj hsm hr => ?_⟩
                have e4 : a.tmps.getD 4 undef = .int .i64 i := hsm 4 (by decide)
                rw [Array.getD_eq_getD_getElem?] at e4
                unfold Oper.wp
                simp only [execOp, Act.eval, Array.getD_eq_getD_getElem?, e4]
                go_simp
                first | exact ⟨_, rfl, rfl, Below.refl _ _⟩ | exact ⟨_, rfl, trivial, Below.refl _ _⟩ | exact ⟨_, rfl, Below.refl _ _⟩
              · refine ⟨fun h => absurd h (by decide), fun _ b => stepJ_of hKB hJB fun a w1 hk hj hsm hr => ?_⟩
                have e56 : a.tmps.getD 56 undef = .slice (some ⟨gl, 0, none⟩) n capl := hr 56 (by decide) (by apply Array.mem_toList_iff.1; repeat (first | exact List.Mem.head _ | apply List.Mem.tail))
                have e57 : a.tmps.getD 57 undef = .int .i64 i := hr 57 (by decide) (by apply Array.mem_toList_iff.1; repeat (first | exact List.Mem.head _ | apply List.Mem.tail))
                rw [Array.getD_eq_getD_getElem?] at e56
                rw [Array.getD_eq_getD_getElem?] at e57
                unfold Oper.wp
                simp only [execOp, Act.eval, Array.getD_eq_getD_getElem?, e56, e57]
                go_simp
                first | exact ⟨_, rfl, rfl, Below.refl _ _⟩ | exact ⟨_, rfl, trivial, Below.refl _ _⟩ | exact ⟨_, rfl, Below.refl _ _⟩
              · refine ⟨fun h => absurd h (by decide), fun _ b => stepJ_of hKB hJB fun a w1 hk hj hsm hr => ?_⟩
                have e58 : a.tmps.getD 58 undef = .pointer (some ⟨gl, i * 8, none⟩) := hr 58 (by decide) (by apply Array.mem_toList_iff.1; repeat (first | exact List.Mem.head _ | apply List.Mem.tail))
                have hh := HLC.out w1 (HGK.out w1 hk)
                have x0 : w1.cell? ⟨gl, i * 8, none⟩ = some (.string mk) := hh 0 _ rfl
                have x1 : w1.cell? ⟨gl, i * 8 + 1, none⟩ = some (.int .i64 mf) := hh 1 _ rfl
                have x2 : w1.cell? ⟨gl, i * 8 + 2, none⟩ = some (.int .i64 mt) := hh 2 _ rfl
                have x3 : w1.cell? ⟨gl, i * 8 + 3, none⟩ = some (.int .i64 mc) := hh 3 _ rfl
                have x4 : w1.cell? ⟨gl, i * 8 + 4, none⟩ = some (.int .i64 mg) := hh 4 _ rfl
                have x5 : w1.cell? ⟨gl, i * 8 + 5, none⟩ = some (.int .i64 mv) := hh 5 _ rfl
                have x6 : w1.cell? ⟨gl, i * 8 + 6, none⟩ = some (.int .i64 mz) := hh 6 _ rfl
                have x7 : w1.cell? ⟨gl, i * 8 + 7, none⟩ = some (.bool false) := hh 7 _ rfl
                clear hh
                rw [Array.getD_eq_getD_getElem?] at e58
                unfold Oper.wp
                simp only [execOp, Act.eval, Array.getD_eq_getD_getElem?, e58]
                go_simp
                first | exact ⟨_, rfl, rfl, Below.refl _ _⟩ | exact ⟨_, rfl, trivial, Below.refl _ _⟩ | exact ⟨_, rfl, Below.refl _ _⟩
              · refine ⟨fun h => absurd h (by decide), fun _ b => stepJ_of hKB hJB fun a w1 hk hj hsm hr => ?_⟩
                have e59 : a.tmps.getD 59 undef = .agg #[.string mk, .int .i64 mf, .int .i64 mt, .int .i64 mc, .int .i64 mg, .int .i64 mv, .int .i64 mz, .bool false] := hr 59 (by decide) (by apply Array.mem_toList_iff.1; repeat (first | exact List.Mem.head _ | apply List.Mem.tail))
                have hsz := hk.size
                rw [Array.getD_eq_getD_getElem?] at e59
                unfold Oper.wp
                simp only [execOp, Act.eval, Array.getD_eq_getD_getElem?, e59]
                go_simp
                exact ⟨_, rfl, ⟨w1.heap.size, rfl, hsz, Blk.new w1 31 _⟩, (Below.refl _ _).alloc (Nat.le_refl _) _⟩
              · refine ⟨fun _ a w1 hk hj hsm hr => ?_, fun h => absurd rfl h⟩
                have e52 : a.tmps.getD 52 undef = .slice (some ⟨g, 0, none⟩) at_ oc := hr 52 (by decide) (by apply Array.mem_toList_iff.1; repeat (first | exact List.Mem.head _ | apply List.Mem.tail))
                have r60 := hr 60 (by decide) (by apply Array.mem_toList_iff.1; repeat (first | exact List.Mem.head _ | apply List.Mem.tail))
                obtain ⟨b, e60, hb, hbb⟩ := r60
                have hj : w1.ownsRow w.heap.size 31 8 (.slice (some ⟨g, 0, none⟩) m oc) m (msgCs K) := hj
                have hrd : Reads w1 w1.heap.size 8 (some ⟨b, 0, none⟩) 1 (msgCs [⟨mk, mf, mt, mc, mg, mv, mz, false⟩]) := ⟨rfl, fun _ => ⟨_, rfl, hbb.lt, fun j u hu => by rw [add_lit, hbb.cell]; simpa [msgCs, msgC] using hu⟩⟩
                obtain ⟨A1, c1, w'', hrun, hown', hgb⟩ := push_ms w1 w.heap.size (some ⟨g, 0, none⟩) oc at_ _ (some ⟨b, 0, none⟩) 1 1 [⟨mk, mf, mt, mc, mg, mv, mz, false⟩] rfl (own_cut hj HATM.out) hrd (Nat.le_trans HWD.out.size hk.size) (by have := HATM.out; have := HMB.out; omega) (by decide)
                rw [msgCs_take, ← msgCs_app] at hown'
                have hrw : (Value.slice (some ⟨g, 0, none⟩) at_ oc).ownBlock = ROW := HROW.out
                rw [hrw] at hgb
                exact Lib.wp_append_run w1 (.tmp 52) (.tmp 60) 27 27 rfl _ _ e52 e60 _ w'' hrun ⟨_, rfl, fun t ht => by cases ht; exact True.intro, hgb, hown'⟩
              · refine ⟨fun h => absurd h (by decide), fun _ b => stepJ_of hKB hJB fun a w1 hk hj hsm hr => ?_⟩
                have e6 : a.tmps.getD 6 undef = .slice A6 (m - at_) c6 := hsm 6 (by decide)
                rw [Array.getD_eq_getD_getElem?] at e6
                unfold Oper.wp
                simp only [execOp, Act.eval, Array.getD_eq_getD_getElem?, e6]
                go_simp
                first | exact ⟨_, rfl, rfl, Below.refl _ _⟩ | exact ⟨_, rfl, trivial, Below.refl _ _⟩ | exact ⟨_, rfl, Below.refl _ _⟩
            case fin =>
              intro ff w9 hk hj hr
              have hj : w9.ownsRow w.heap.size 31 8 (ff 61) (at_ + 1) (msgCs (K.take at_ ++ [⟨mk, mf, mt, mc, mg, mv, mz, false⟩])) := hj
              have f62 : ff 62 = .slice A6 (m - at_) c6 := hr 62 (by decide)
              obtain ⟨A1, c1, f61⟩ := own_form hj
              rw [f61] at hj
              have h6 : w9.ownsRow wc.heap.size 31 8 (.slice A6 (m - at_) c6) (m - at_) (msgCs (K.drop at_)) := own_gr HO6.out hk fun gg hgg => (HRL.out gg hgg).2
              have hw9 : Below w.heap.size w w9 := HGK.out w9 hk
              obtain ⟨A2, c2, w10, hrun, hown, hgr⟩ := push_ms w9 w.heap.size A1 c1 (at_ + 1) _ A6 c6 (m - at_) (K.drop at_) (by rw [List.length_drop, HKM.out]) hj (Reads.of_own h6) hw9.size (by have := HATM.out; have := HMB.out; omega) (by have := HMB.out; omega)
              rw [← msgCs_app, List.append_assoc, List.singleton_append] at hown
              have HB10 := hide (hw9.grown hgr hw9.size fun gg hgg => (own_block hj hgg).1)
              have HOW2 := hide hown
              have HKM2 := hide (show (K.take at_ ++ ⟨mk, mf, mt, mc, mg, mv, mz, false⟩ :: K.drop at_).length = at_ + 1 + (m - at_) by
                rw [List.length_append, List.length_cons, List.length_take, List.length_drop, HKM.out]
                have := HATM.out
                omega)
              have HO2 := hide (show (A2 = none ∧ at_ + 1 + (m - at_) = 0 ∧ c2 = 0) ∨ ∃ g, A2 = some ⟨g, 0, none⟩ ∧ 0 < at_ + 1 + (m - at_) ∧ at_ + 1 + (m - at_) ≤ c2 from .inr (by
                obtain ⟨g2, e2, _, _, _, _, hcc, _⟩ := own_cell hown (by omega)
                exact ⟨g2, e2, by omega, hcc⟩))
              have RUN := hide hrun
              clear hj h6 hw9 hrun hown hgr hk hr
              simp only [putAll, slotsOf, List.take_succ_cons, List.take_zero, List.drop_succ_cons, List.drop_zero, List.filterMap_cons, List.filterMap_nil, List.foldl_cons, List.foldl_nil, Act.put, f61, f62]
              simp only [List.setIfInBounds_toArray, List.set_cons_succ, List.set_cons_zero]
              clear f61 f62
              go_wp2_with (at_builtin; refine Lib.wpList_append_run _ rfl _ _ 27 27 rfl _ _ rfl rfl _ _ RUN.out ?_)
              go_roundw
              case rel => exact ⟨i + 1, K.take at_ ++ ⟨mk, mf, mt, mc, mg, mv, mz, false⟩ :: K.drop at_, A2, c2, at_ + 1 + (m - at_), HLT.out, by go_num, rfl, HKM2, HIL2, HO2, HOW2, HB10⟩
              case measure => have := HLT.out; simp [RowKit.intOf] <;> omega
/-- The document's queue, copied. -/
theorem reads_all {w : World} {B n c : Nat} {A : Option Addr} {K : List Msg} (h : w.ownsRow B 31 8 (.slice A n c) n (msgCs K)) : Reads w w.heap.size 8 A n (msgCs K) := Reads.of_own h
set_option maxRecDepth 100000 in
set_option maxHeartbeats 4000000 in
theorem CopyR_b {w : World} {p : Nat} {A : Option Addr} {l : List Msg} (h : RAt w p A l) (hl : l.length ≤ 1000) :
    Calls Try.prog 15 #[.pointer (some ⟨p, 0, none⟩)] w fun e w' => ∃ p2 A2, e = .returned (.pointer (some ⟨p2, 0, none⟩)) ∧ RAt w' p2 A2 l ∧ (∀ b ∈ rf p2 A2, w.heap.size ≤ b) ∧ Below w.heap.size w w' := by
  obtain ⟨capl, hbp, hownl⟩ := h
  obtain ⟨n, hn⟩ : ∃ z, l.length = z := ⟨_, rfl⟩
  rw [hn] at hbp hownl
  have ba := (Below.refl w.heap.size w).alloc (Nat.le_refl _) (.cells #[] 31)
  have hbp2 := hbp.below ba hbp.lt
  obtain ⟨A1, c1, w1, hrun, hown, hb1⟩ := copy_rest w A capl n l hn (reads_all hownl) (by omega)
  have hs1 : (w.alloc (.cells #[] 31)).heap.size = w.heap.size + 1 := by simp
  have c0 : (w.alloc (.cells #[] 31)).cell? ⟨p, 0, none⟩ = some (.slice A n capl) := hbp2.cell 0
  obtain ⟨wa, hwa⟩ : ∃ z, w.alloc (.cells #[] 31) = z := ⟨_, rfl⟩
  rw [hwa] at hrun
  have b2 := (Below.refl w1.heap.size w1).alloc (Nat.le_refl _) (.cells #[.slice A1 n c1] 29)
  have k2 := Blk.new w1 29 #[.slice A1 n c1]
  have hR : RAt (w1.alloc (.cells #[.slice A1 n c1] 29)) w1.heap.size A1 l := ⟨c1, by rw [hn]; exact k2, by rw [hn]; exact own_more (own_belowR hown b2) (Nat.zero_le _)⟩
  have hF : ∀ b ∈ rf w1.heap.size A1, w.heap.size ≤ b := fun b hb => by
    unfold rf at hb
    rcases List.mem_cons.1 hb with rfl | hb
    · exact hb1.size
    · cases A1 with
      | none => simp at hb
      | some a =>
        have e : b = a.block := by simpa using hb
        rw [e]
        exact (own_block hown rfl).1
  have HR := hide hR
  have HF := hide hF
  have HB := hide (hb1.trans (b2.mono hb1.size))
  have RUN := hide hrun
  have HWA := hide hwa
  clear hbp hownl hn ba hbp2 hown hb1 hs1 b2 k2 hR hF hrun hwa hl
  go_enter Try.func15, Try.ntmps15
  go_wp2_with (at_builtin; rw [HWA.out]; refine Lib.wpList_append_run _ rfl _ _ 27 27 rfl _ _ rfl rfl _ _ RUN.out ?_)
  go_ret
  exact ⟨_, A1, rfl, HR.out, HF.out, HB.out⟩
end Qu
end Go.Proofs.Ytomladbdebfikaa
