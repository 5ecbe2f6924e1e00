/- The heights of a program's instructions: goWays. -/
import Derived.Test.YtoiibphbogpojaaDoorRows
import Derived.Test.YtoiibphbogpojaaDoorCodF
import Derived.Test.YtoiibphbogpojaaDoorCodQ
import Derived.Test.YtoiibphbogpojaaDoorQuietBelow
import Derived.Deep.LoopGhost
namespace Go.Proofs.YtoiibphbogpojaaDoor
open Go Go.RowKit
set_option linter.unusedVariables false
set_option linter.unusedSimpArgs false
namespace Cod
def hI (h : List Int) : List Value := h.map fun z => .int .i64 z
theorem hI_at {h : List Int} {k : Nat} (hk : k < h.length) : (hI h).toArray[k]? = some (.int .i64 (h.getD k 0)) := by
  unfold hI
  rw [List.getElem?_toArray, List.getElem?_map, List.getElem?_eq_getElem hk, List.getD_eq_getElem?_getD, List.getElem?_eq_getElem hk]
  rfl
theorem hI_set (h : List Int) (k : Nat) (b : Int) : (hI h).toArray.setIfInBounds k (.int .i64 b) = (hI (h.set k b)).toArray := by
  unfold hI
  simp
theorem Lst.re {w : World} {L X Y : Nat} {t : List Nat} (h : Lst w L X t) (hY : Y < L) : Lst w L Y t := by
  obtain ⟨A, n, c, h1, h2, h3, h4⟩ := h
  refine ⟨A, n, c, h1, h2, h3, fun h0 => ?_⟩
  obtain ⟨g, cur, e, hg, hx, r⟩ := h4 h0
  exact ⟨g, cur, e, hg, by omega, r⟩
theorem ways_len (x : In) (a : Nat) : (waysI x a).length ≤ 2 := by
  unfold waysI
  split
  · exact Nat.zero_le _
  · split
    · simp
    · split <;> simp
theorem Lst.lt {w : World} {L X : Nat} {t : List Nat} (h : Lst w L X t) : L < w.heap.size := by
  obtain ⟨A, n, c, h1, _⟩ := h
  exact h1.lt
theorem Lst.new {w w' : World} {L X g : Nat} {t : List Nat} (h : Lst w L X t) (hb : Below w.heap.size w w') (hg : w.heap.size ≤ g) : Lst w' L g t := by
  obtain ⟨A, n, c, h1, h2, h3, h4⟩ := h
  refine ⟨A, n, c, h1.below hb h1.lt, h2, h3, fun h0 => ?_⟩
  obtain ⟨g', cur, e, hg', hx, hbk, r⟩ := h4 h0
  exact ⟨g', cur, e, hg', by have := hbk.lt; omega, hbk.below hb hbk.lt, r⟩
theorem Lst.far {w : World} {L X B : Nat} {t : List Nat} (h : Lst w L X t) (hB : B < L) (o : Nat) (u : Value) : Lst (w.setCell ⟨B, o, none⟩ u) L X t := by
  obtain ⟨A, n, c, h1, h2, h3, h4⟩ := h
  refine ⟨A, n, c, h1.far (p := ⟨B, o, none⟩) (by show L ≠ B; omega) u, h2, h3, fun h0 => ?_⟩
  obtain ⟨g, cur, e, hg, hx, hbk, r⟩ := h4 h0
  exact ⟨g, cur, e, hg, hx, hbk.far (p := ⟨B, o, none⟩) (by show g ≠ B; omega) u, r⟩
/-- What stands in a round: the heights, the list. -/
structure GS (w wr : World) (B L X : Nat) (h : List Int) (t : List Nat) : Prop where
  hs : Blk wr B 3 (hI h).toArray
  ls : Lst wr L X t
  bl : Below w.heap.size w wr
def GwPost (cs : List In) (w : World) (e : Ending) (w' : World) : Prop :=
  (∃ r, Goes cs (h0 cs.length) [0] r ∧ ((r = none ∧ e = .returned (.tuple #[.slice none 0 0, .bool false])) ∨ (∃ hs g, r = some hs ∧ hs.length = cs.length ∧ (∀ k, k < cs.length → hs.getD k 0 = -1 ∨ (0 ≤ hs.getD k 0 ∧ hs.getD k 0 ≤ 200)) ∧ e = .returned (.tuple #[.slice (some ⟨g, 0, none⟩) cs.length cs.length, .bool true]) ∧ w.heap.size ≤ g ∧ Blk w' g 3 (hI hs).toArray))) ∧ Below w.heap.size w w'
set_option maxRecDepth 100000 in
set_option maxHeartbeats 16000000 in
theorem goWays_c (C : Option Addr) (cc : Nat) (cs : List In) (w : World) (hC : CodeAt w C cs) (hk : CsOk cs) (H : Ops w) :
    Calls Tryd.prog 44 #[.slice C cs.length cc] w (GwPost cs w) := by
  have HC := hide hC
  have HK := hide hk
  have HO := hide H
  have hN0 := hk.pos
  have hN1 := hk.most
  clear hC hk H
  obtain ⟨N, hN⟩ : ∃ N, cs.length = N := ⟨_, rfl⟩
  have HN := hide hN
  rw [hN] at hN0 hN1 ⊢
  have MK := fun W : World => mkI N (by omega) W
  obtain ⟨B, hB⟩ : ∃ B, w.heap.size = B := ⟨_, rfl⟩
  have HBB := hide hB
  clear hN
  go_enter Tryd.func44, Tryd.ntmps44
  go_wp2_with fail
  clear MK
  clear hB
  go_loopw [17] (fun vi wr => ∃ i : Nat, i ≤ N ∧ vi = .int .i64 i ∧ Hid (∃ cur, Blk wr B 3 cur ∧ cur.size = N ∧ ∀ j, j < i → cur[j]? = some (.int .i64 (-1))) ∧ Hid (Below w.heap.size w wr)) (fun vi _ => N - (RowKit.intOf vi).toNat)
  case atStart => exact ⟨0, Nat.zero_le _, rfl, hide ⟨_, by rw [← HBB.out]; exact Blk.new w _ _, by simp, fun j hj => absurd hj (Nat.not_lt_zero j)⟩, hide ((Below.refl _ w).alloc (Nat.le_refl _) _)⟩
  case round =>
    obtain ⟨i, hi, rfl, HCu, HB⟩ := hrel
    rename World => wr
    obtain ⟨cur, hcb, hcz, hcv⟩ := HCu.out
    by_cases hlt : i < N
    · have hltI : (i : Int) < (N : Int) := by omega
      have cx := hcb.cell i
      rw [Array.getElem?_eq_getElem (by omega)] at cx
      have fx := hcb.frozen i
      have H2 : Hid (∃ c2, Blk (wr.setCell ⟨B, i, none⟩ (.int .i64 (-1))) B 3 c2 ∧ c2.size = N ∧ ∀ j, j < i + 1 → c2[j]? = some (.int .i64 (-1))) := hide ⟨_, hcb.set_ i _, by simpa using hcz, fun j hj => by
        rw [Array.getElem?_setIfInBounds]
        by_cases e : i = j
        · rw [if_pos e, if_pos (by omega)]
        · rw [if_neg e]; exact hcv j (by omega)⟩
      have HB2 := hide (HB.out.setCell (p := ⟨B, i, none⟩) (by rw [HBB.out]; exact Nat.le_refl _) (.int .i64 (-1)))
      clear hcb hcv HCu
      go_wp2_with fail
      go_roundw
      case rel => exact ⟨i + 1, by omega, by go_num, H2, HB2⟩
      case measure => simp [RowKit.intOf] <;> omega
    obtain rfl : i = N := by omega
    have hltI : ¬ (i : Int) < (i : Int) := by omega
    have ecur : cur = (hI (List.replicate i (-1))).toArray := by
      apply Array.ext
      · simp [hI, hcz]
      · intro j h1 h2
        have h3 := hcv j (by omega)
        rw [Array.getElem?_eq_getElem h1] at h3
        have h4 := Option.some.inj h3
        rw [h4]
        simp [hI]
    subst ecur
    have cx := hcb.cell 0
    rw [hI_at (by simp; omega), show (List.replicate i (-1 : Int)).getD 0 0 = -1 by rw [List.getD_eq_getElem?_getD, List.getElem?_replicate, if_pos hN0]; rfl] at cx
    have fx := hcb.frozen 0
    have hwB : B < wr.heap.size := hcb.lt
    have hb0 := hcb.set_ 0 (.int .i64 0)
    rw [hI_set, show (List.replicate i (-1 : Int)).set 0 0 = h0 i from rfl] at hb0
    have hB0 := HB.out.setCell (p := ⟨B, 0, none⟩) (by rw [HBB.out]; exact Nat.le_refl _) (.int .i64 0)
    have hsz : (wr.setCell ⟨B, 0, none⟩ (.int .i64 0)).heap.size = wr.heap.size := by simp [World.setCell]
    obtain ⟨w2, hw2⟩ : ∃ z, wr.setCell ⟨B, 0, none⟩ (.int .i64 0) = z := ⟨_, rfl⟩
    rw [hw2] at hb0 hB0 hsz
    have hb1 := hb0.alloc (.cells #[.slice none 0 0, .int .i64 0] 80)
    have hB1 := hB0.alloc hB0.size (.cells #[.slice none 0 0, .int .i64 0] 80)
    have hl1 := Blk.new w2 80 #[.slice none 0 0, .int .i64 0]
    obtain ⟨w3, hw3⟩ : ∃ z, w2.alloc (.cells #[.slice none 0 0, .int .i64 0] 80) = z := ⟨_, rfl⟩
    rw [hw3] at hb1 hB1 hl1
    obtain ⟨L, hL⟩ : ∃ L, w2.heap.size = L := ⟨_, rfl⟩
    rw [hL] at hl1
    have hBL : B < L := by omega
    have LS : Lst w3 L B [] := ⟨none, 0, 0, hl1, Nat.zero_le _, Nat.zero_le _, fun h => absurd h (Nat.lt_irrefl 0)⟩
    have AD := add_c L B 0 [] w3 LS (Nat.lt_trans hBL hl1.lt) (by omega) (by simp)
    rw [show ((0 : Nat) : Int) = 0 from rfl] at AD
    have HAD := hide AD
    have HB1 := hide hB1
    have Hb1 := hide hb1
    clear hcb hcv HCu hb0 hB0 hb1 hB1 hl1 LS AD hcz hltI HB
    go_wp2_with fail
    rw [show wr.heap.size = L by omega]
    refine HAD.out.mono ?_
    rintro e w4 ⟨rfl, hls, hb4, hx4⟩
    have HG4 : Hid (GS w w4 B L B (h0 i) [0]) := hide ⟨hx4.trans Hb1.out, hls, HB1.out.trans (hb4.mono (by have := HBB.out; omega))⟩
    clear hls hb4 hx4 HAD Hb1 HB1 hw2 hw3 hsz hL cx fx hwB
    clear w2 w3
    go_wp2_with fail
    go_loopg [3] (2 * i + 1) (fun g v3 wl => ∃ (h : List Int) (t : List Nat), v3 = .bool false ∧ meas h t ≤ g ∧ meas h t ≤ 2 * i + 1 ∧ Hid (GInv i h t) ∧ Hid (GS w wl B L B h t) ∧ Hid (∀ r, Goes cs h t r → Goes cs (h0 i) [0] r))
    case atStart => exact ⟨h0 i, [0], rfl, meas_start i, meas_start i, hide (GInv.start hN0), HG4, hide (fun r hr => hr)⟩
    case round =>
      obtain ⟨h, t, rfl, hme, hme2, HI, HS, HR⟩ := hrel
      rename World => wl
      rcases List.eq_nil_or_concat t with rfl | ⟨t0, a, rfl⟩
      · obtain ⟨A, pn, pc, hbk, _⟩ := HS.out.ls
        have l1 : wl.cell? ⟨L, 1, none⟩ = some (.int .i64 0) := hbk.cell 1
        clear hbk
        go_wp2_with fail
        exact bodyPost_ret (v := .tuple #[.slice (some ⟨B, 0, none⟩) i i, .bool true]) (by simp [results, Tryd.results44, go_sem]) rfl ⟨⟨some h, by rw [HN.out]; exact HR.out _ (.stop h), .inr ⟨h, B, rfl, by rw [HN.out]; exact HI.out.len, by rw [HN.out]; exact HI.out.bnd, by rw [HN.out], by rw [HBB.out]; exact Nat.le_refl _, HS.out.hs⟩⟩, HS.out.bl⟩
      obtain ⟨A, pn, pc, hbk, htn, hpn, hpl⟩ := HS.out.ls
      rw [List.concat_eq_append] at hbk htn hpl hme hme2 HI HR
      have hlen : (t0 ++ [a]).length = t0.length + 1 := by rw [List.length_append, List.length_singleton]
      rw [hlen] at hbk htn
      obtain ⟨g9, cur, rfl, hg9, hg9x, hgb, hgz, hgc, hgv⟩ := hpl (by omega)
      obtain ⟨I0, ha, ha0, ha2⟩ := HI.out.pop
      have hca := hgv t0.length (by omega)
      rw [List.getElem_append_right (Nat.le_refl _)] at hca
      simp only [Nat.sub_self, List.getElem_cons_zero] at hca
      obtain ⟨T0, hT0⟩ : ∃ z, t0.length = z := ⟨_, rfl⟩
      have htm : T0 ≤ 2 * i + 1 := by unfold meas at hme2; rw [hlen] at hme2; omega
      rw [hT0] at hbk htn hca
      have l0 : wl.cell? ⟨L, 0, none⟩ = some (.slice (some ⟨g9, 0, none⟩) pn pc) := hbk.cell 0
      have l1 : wl.cell? ⟨L, 1, none⟩ = some (.int .i64 ((T0 : Int) + 1)) := hbk.cell 1
      have fl := hbk.frozen 1
      have s1 : (0 : Int) < (T0 : Int) + 1 := by omega
      have s2 : (T0 : Int) + 1 - 1 = (T0 : Int) := by omega
      have s3 : IntKind.i64.wrap ((T0 : Int) + 1 - 1) = (T0 : Int) := by rw [IntKind.wrap_i64]; omega
      have s4 : (T0 : Int) < (pn : Int) := by omega
      have hb1 := hbk.set_ 1 (.int .i64 (T0 : Int))
      have hg1 := hgb.far (p := ⟨L, 1, none⟩) (by show g9 ≠ L; omega) (.int .i64 (T0 : Int))
      have hh1 := HS.out.hs.far (p := ⟨L, 1, none⟩) (by show B ≠ L; omega) (.int .i64 (T0 : Int))
      have hB1 := HS.out.bl.setCell (p := ⟨L, 1, none⟩) (by have := HBB.out; show w.heap.size ≤ L; omega) (.int .i64 (T0 : Int))
      obtain ⟨W1, hW1⟩ : ∃ z, wl.setCell ⟨L, 1, none⟩ (.int .i64 (T0 : Int)) = z := ⟨_, rfl⟩
      rw [hW1] at hb1 hg1 hh1 hB1
      have k0 : W1.cell? ⟨L, 0, none⟩ = some (.slice (some ⟨g9, 0, none⟩) pn pc) := hb1.cell 0
      have k1 : W1.cell? ⟨L, 1, none⟩ = some (.int .i64 (T0 : Int)) := hb1.cell 1
      have kg : W1.cell? ⟨g9, T0, none⟩ = some (.int .i64 (a : Nat)) := by rw [hg1.cell]; exact hca
      have S1 : Hid (GS w W1 B L B h t0) := hide ⟨hh1, ⟨some ⟨g9, 0, none⟩, pn, pc, by rw [hT0]; exact hb1, by omega, hpn, fun _ => ⟨g9, cur, rfl, hg9, hg9x, hg1, hgz, hgc, fun j hj => by
        have := hgv j (by omega)
        rwa [List.getElem_append_left hj] at this⟩⟩, hB1⟩
      clear hbk hgb hgv hca hpl hb1 hg1 hh1 hB1 HS HI
      go_wp2_with fail
      go_quiet (fail)
      clear k0 k1 kg l0 l1 fl
      go_wp2_with fail
      have S2 : Hid (GS w (W1.drewN nq) B L B h t0) := hide ⟨S1.out.hs, S1.out.ls, below_drewN S1.out.bl nq⟩
      generalize W1.drewN nq = W2 at *
      clear S1 hW1 htn hpn hgz hgc hg9 hg9x s1 s2 s3 s4
      obtain ⟨ad, rfl, had, hcs⟩ := (HC.out.below S2.out.bl) (by have := HN.out; omega)
      obtain ⟨_, hx0, hx1⟩ := hcs a (by have := HN.out; omega)
      obtain ⟨o1, o29, o28, o22⟩ := HK.out.each a (by have := HN.out; omega)
      have WLT := hide (ways_lt HK.out (a := a) (by have := HN.out; omega))
      have exa : cs[a]'(by have := HN.out; omega) = cs.getD a default := by rw [List.getD_eq_getElem?_getD, List.getElem?_eq_getElem (by have := HN.out; omega)]; rfl
      rw [exa] at hx0 hx1
      have GB : Hid (okS (cs.getD a default) (h.getD a 0) = false → goF cs h t0 a = none) := hide (fun hk => by unfold goF; rw [stepI_no hk]; rfl)
      have GY : Hid (okS (cs.getD a default) (h.getD a 0) = true → goF cs h t0 a = wayF (behI (cs.getD a default) (h.getD a 0)) (waysI (cs.getD a default) a) h t0) := hide (fun hk => by unfold goF; rw [stepI_ok hk]; rfl)
      have BB : Hid (okS (cs.getD a default) (h.getD a 0) = true → 0 ≤ behI (cs.getD a default) (h.getD a 0) ∧ behI (cs.getD a default) (h.getD a 0) ≤ 200) := hide (fun hk => beh_bnd hk o28)
      rw [HN.out] at o22 WLT
      have hha := S2.out.hs.cell a
      rw [hI_at (by rw [I0.len]; exact ha)] at hha
      obtain ⟨x, hx⟩ : ∃ x, cs.getD a default = x := ⟨_, rfl⟩
      rw [hx] at hx0 hx1 o1 o29 o28 o22 WLT GB GY BB
      obtain ⟨hv, hhv⟩ : ∃ z, h.getD a 0 = z := ⟨_, rfl⟩
      rw [hhv] at ha0 ha2 GB GY BB hha
      obtain ⟨xo, n⟩ := x
      simp only at o1 o29 o28 o22 hx0 hx1
      obtain ⟨o, rfl⟩ : ∃ o : Nat, xo = (o : Int) := ⟨xo.toNat, by omega⟩
      have hadb : (ad.add (a * 2)).block < W2.heap.size := by rw [block_of_add]; exact had
      have q0 : ∀ p : BelowOf W2, p.world.cell? (ad.add (a * 2)) = some (.int .u8 o) := fun p => (p.below.cell hadb).trans hx0
      have q1 : ∀ p : BelowOf W2, p.world.cell? ⟨(ad.add (a * 2)).block, (ad.add (a * 2)).off + 1, none⟩ = some (.int .i64 n) := fun p => (p.below.cell (p := ⟨_, _, none⟩) hadb).trans hx1
      have qh : ∀ p : BelowOf W2, p.world.cell? ⟨B, a, none⟩ = some (.int .i64 hv) := fun p => (p.below.cell (p := ⟨B, a, none⟩) S2.out.hs.lt).trans hha
      have LC := hide (fun p : BelowOf W2 => step_c o n hv (by omega) (fun e => o28 (by omega)) ha0 ha2 p.world ((HO.out.below S2.out.bl (Nat.le_refl _)).below p.below (Nat.le_refl _)))
      have WC := hide (fun w' : World => ways_c o n a (fun e => by have := o22 (by omega); omega) (by omega) (by omega) w')
      have NE : Nonempty (BelowOf W2) := ⟨⟨W2, Below.refl _ _⟩⟩
      have aI : (a : Int) < (i : Int) := by omega
      unfold In.val at LC WC
      simp only at LC WC
      clear hcs hx0 hx1 hha exa hx hhv ha0 ha2 o28 o22
      go_wp2_with fail
      refine wp_region_quiet_below (by kernel_rfl) (by kernel_rfl) ?_
      repeat (go_big_quiet_step (first
        | (go_at_call 48; refine calls_below (LC.out _))))
      refine wpQuiet_nil ?_
      rintro Wq ⟨⟨_, hq⟩, rfl⟩
      have S3 : Hid (GS w Wq B L B h t0) := hide ⟨S2.out.hs.below hq S2.out.hs.lt, S2.out.ls.below hq, S2.out.bl.trans (hq.mono S2.out.bl.size)⟩
      have q0 := q0 ⟨Wq, hq⟩
      have q1 := q1 ⟨Wq, hq⟩
      dsimp only at q0 q1
      clear qh hq LC NE S2 hadb had
      rcases hok : okS ⟨o, n⟩ hv with _ | _
      · have RN := hide (HR.out none (.bad h t0 a (GB.out hok)))
        clear hok
        go_wp2_with fail
        exact bodyPost_ret (v := .tuple #[.slice none 0 0, .bool false]) (by simp [results, Tryd.results44, go_sem]) rfl ⟨⟨none, by rw [HN.out]; exact RN.out, .inl ⟨rfl, rfl⟩⟩, S3.out.bl⟩
      have GY2 := hide (GY.out hok)
      have BB2 := hide (BB.out hok)
      obtain ⟨b, hb⟩ : ∃ z, behI ⟨o, n⟩ hv = z := ⟨_, rfl⟩
      rw [hb] at GY2 BB2
      have hwl := ways_len ⟨o, n⟩ a
      obtain ⟨ws, hws⟩ : ∃ z, waysI ⟨o, n⟩ a = z := ⟨_, rfl⟩
      rw [hws] at GY2 WLT WC hwl
      clear hok GY BB GB hws
      rw [hb]
      clear hb
      go_wp2_with fail
      refine (WC.out Wq).mono ?_
      rintro e w5 ⟨⟨WA, rfl, hwa⟩, hb5⟩
      have hLq := S3.out.ls.lt
      obtain ⟨X, hX, hXL, hXB, hLX, hXw⟩ : ∃ X, X < w5.heap.size ∧ X ≠ L ∧ (0 < ws.length → X ≠ B) ∧ Lst w5 L X t0 ∧ (∀ j (hj : j < ws.length), WA = some ⟨X, 0, none⟩ ∧ w5.cell? ⟨X, j, none⟩ = some (.int .i64 (ws[j] : Nat))) := by
        rcases Nat.eq_zero_or_pos ws.length with hz | hz
        · exact ⟨B, Nat.lt_of_lt_of_le S3.out.hs.lt hb5.size, by omega, fun h => by omega, S3.out.ls.below hb5, fun j hj => by omega⟩
        · obtain ⟨g, e, h1, h2, h3⟩ := hwa 0 hz
          refine ⟨g, h2, by omega, fun _ => by omega, S3.out.ls.new hb5 h1, fun j hj => ?_⟩
          obtain ⟨g', e', _, _, h3'⟩ := hwa j hj
          rw [e] at e'
          cases e'
          exact ⟨e, h3'⟩
      have G5 : Hid (GS w w5 B L X h t0) := hide ⟨S3.out.hs.below hb5 S3.out.hs.lt, hLX, S3.out.bl.trans (hb5.mono S3.out.bl.size)⟩
      have HXW := hide hXw
      have hXB := hide hXB
      have HME : Hid (meas h (t0 ++ [a]) = meas h t0 + 1) := hide (by unfold meas; rw [hlen]; omega)
      have hm2 : meas h t0 ≤ 2 * i + 1 := by have := HME.out; omega
      have hmg : meas h t0 < gk := by have := HME.out; omega
      have HI0 := hide I0
      clear hwa hLX hXw WC S3 hb5 q0 q1 I0
      go_wp2_with fail
      go_loopw [3, 73] (fun v3 vi wk => ∃ (j : Nat) (h1 : List Int) (t1 : List Nat), j ≤ ws.length ∧ v3 = .bool false ∧ vi = .int .i64 j ∧ Hid (wayF b (ws.drop j) h1 t1 = wayF b ws h t0) ∧ Hid (GInv i h1 t1) ∧ Hid (meas h1 t1 ≤ meas h t0) ∧ Hid (GS w wk B L X h1 t1) ∧ Hid (w5.heap.size ≤ wk.heap.size ∧ wk.heap[X]? = w5.heap[X]?)) (fun _ vi _ => ws.length - (RowKit.intOf vi).toNat)
      case atStart => exact ⟨0, h, t0, Nat.zero_le _, rfl, rfl, hide rfl, HI0, hide (Nat.le_refl _), G5, hide ⟨Nat.le_refl _, rfl⟩⟩
      case round =>
        obtain ⟨j, h1, t1, hj, rfl, rfl, HF, HI1, HM1, HG1, HX1⟩ := hrel
        rename World => wk
        clear G5
        by_cases hlt2 : j < ws.length
        · have hltI2 : (j : Int) < (ws.length : Int) := by omega
          obtain ⟨eA, hcw⟩ := HXW.out j hlt2
          subst eA
          have cw : wk.cell? ⟨X, j, none⟩ = some (.int .i64 (ws[j] : Nat)) := (World.cell?_of_block (w := w5) (a := ⟨X, j, none⟩) HX1.out.2).trans hcw
          have DR : ws.drop j = ws[j] :: ws.drop (j + 1) := List.drop_eq_getElem_cons hlt2
          have hki := WLT.out _ (List.getElem_mem hlt2)
          have HF2 := HF.out
          rw [DR] at HF2
          obtain ⟨k, hk⟩ : ∃ k, ws[j] = k := ⟨_, rfl⟩
          rw [hk] at cw HF2 hki
          have hkl : k < h1.length := by rw [HI1.out.len]; exact hki
          have ch := HG1.out.hs.cell k
          rw [hI_at hkl] at ch
          have fh := HG1.out.hs.frozen k
          have kI : (k : Int) < (i : Int) := by omega
          have hbB := BB2.out
          clear hcw DR hk
          by_cases hz : h1.getD k 0 = -1
          · have HF3 := hide ((wayF_push hz).symm.trans HF2)
            have HI3 := hide (HI1.out.push hki hbB hz)
            have HM3 : Hid (meas (h1.set k b) (t1 ++ [k]) ≤ meas h t0) := hide (by have := meas_push (t := t1) hkl hz (show b ≠ -1 by omega); have := HM1.out; omega)
            have hs6 := HG1.out.hs.set_ k (.int .i64 b)
            rw [hI_set] at hs6
            have ls6 := HG1.out.ls.far hBL k (.int .i64 b)
            have bl6 := HG1.out.bl.setCell (p := ⟨B, k, none⟩) (by rw [HBB.out]; exact Nat.le_refl _) (.int .i64 b)
            have hX6 : X < (wk.setCell ⟨B, k, none⟩ (.int .i64 b)).heap.size := by have := HX1.out.1; simp [World.setCell]; omega
            have hXB' : X ≠ B := hXB.out (by omega)
            have htl : t1.length ≤ 10000 := by have := HM1.out; unfold meas at this hm2; omega
            have AD := hide (add_c L X k t1 _ ls6 hX6 hXL htl)
            have H6 := hide (And.intro hs6 bl6)
            have HX6 := hide (show w5.heap.size ≤ (wk.setCell ⟨B, k, none⟩ (.int .i64 b)).heap.size ∧ (wk.setCell ⟨B, k, none⟩ (.int .i64 b)).heap[X]? = w5.heap[X]? from ⟨by simpa [World.setCell] using HX1.out.1, (Below.heap_setCell wk ⟨B, k, none⟩ _ X hXB').trans HX1.out.2⟩)
            rw [hz] at ch
            obtain ⟨W6, hW6⟩ : ∃ z, wk.setCell ⟨B, k, none⟩ (.int .i64 b) = z := ⟨_, rfl⟩
            rw [hW6] at AD H6 HX6
            clear hs6 ls6 bl6 hX6 HF2 HI1 HM1 HG1 HX1 HF hz hXB'
            go_wp2_with fail
            refine AD.out.mono ?_
            rintro e w7 ⟨rfl, hl7, hb7, hx7⟩
            have HG7 : Hid (GS w w7 B L X (h1.set k b) (t1 ++ [k])) := hide ⟨(hb7.block B hBL).trans H6.out.1, hl7, H6.out.2.trans (hb7.mono (by have := HBB.out; omega))⟩
            have HX7 : Hid (w5.heap.size ≤ w7.heap.size ∧ w7.heap[X]? = w5.heap[X]?) := hide ⟨Nat.le_trans HX6.out.1 hb7.size, hx7.trans HX6.out.2⟩
            clear AD hl7 hb7 hx7 H6 HX6 cw ch fh hW6
            go_wp2_with fail
            go_roundw
            case rel => exact ⟨j + 1, _, _, by omega, rfl, by go_num, HF3, HI3, HM3, HG7, HX7⟩
            case measure => simp [RowKit.intOf] <;> omega
          · have z1 : (h1.getD k 0 == -1) = false := by rw [beq_eq_false_iff_ne]; exact hz
            by_cases hzb : h1.getD k 0 = b
            · have z2 : (h1.getD k 0 != b) = false := by rw [bne_eq_false_iff_eq]; exact hzb
              have HF3 := hide ((wayF_same hz hzb).symm.trans HF2)
              generalize h1.getD k 0 = zz at *
              clear hz hzb HF2
              go_wp2_with fail
              go_roundw
              case rel => exact ⟨j + 1, h1, t1, by omega, rfl, by go_num, HF3, HI1, HM1, HG1, HX1⟩
              case measure => simp [RowKit.intOf] <;> omega
            · have z2 : (h1.getD k 0 != b) = true := by rw [bne_iff_ne]; exact hzb
              have RN := hide (HR.out none (.bad h t0 a (GY2.out.trans (HF2.symm.trans (wayF_clash hz hzb)))))
              generalize h1.getD k 0 = zz at *
              clear hz hzb HF2
              go_wp2_with fail
              exact bodyPost_ret (v := .tuple #[.slice none 0 0, .bool false]) (by simp [results, Tryd.results44, go_sem]) rfl ⟨⟨none, by rw [HN.out]; exact RN.out, .inl ⟨rfl, rfl⟩⟩, HG1.out.bl⟩
        have hltI2 : ¬ (j : Int) < (ws.length : Int) := by omega
        have HGO : Hid (goF cs h t0 a = some (h1, t1)) := hide (GY2.out.trans (HF.out.symm.trans (by rw [List.drop_eq_nil_of_le (by omega)]; rfl)))
        have HR2 := hide (fun r (hr : Goes cs h1 t1 r) => HR.out r (.go h t0 a h1 t1 r HGO.out hr))
        have HG9 : Hid (GS w wk B L B h1 t1) := hide ⟨HG1.out.hs, HG1.out.ls.re hBL, HG1.out.bl⟩
        have hm3 := HM1.out
        clear HF HG1 HX1 HGO HXW
        go_wp2_with fail
        go_roundg (meas h1 t1)
        case measure => omega
        case rel => exact ⟨h1, t1, rfl, Nat.le_refl _, by omega, HI1, HG9, HR2⟩
end Cod
end Go.Proofs.YtoiibphbogpojaaDoor
