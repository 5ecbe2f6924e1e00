/- The walk of the statement PostedOne: of any acts and any rank; without conditions. -/
import Derived.Test.YtonmojinijpneaaRows
import Derived.Test.YtonmojinijpneaaPoAa
import Derived.BigRegion
import Derived.BigQuiet
import Derived.StillTailTactics
namespace Go.Proofs.Ytonmojinijpneaa.PostedOneW
open Go Go.Joins Go.ChangeShapes Go.WideShapes Go.RowKit Go.Deep Go.Lib Go.Proofs.Ytonmojinijpneaa Go.Proofs.Ytonmojinijpneaa.Po Go.Proofs.Ytonmojinijpneaa.Qu
set_option linter.unusedVariables false
set_option linter.unusedSimpArgs false
set_option maxRecDepth 100000 in
set_option maxHeartbeats 16000000 in
theorem walk {H : Type} {enc : TypeId × Value → H} {base : Nat} (W : World) (v0 : Value) (d0 : DataW H) (p0 : List MemPlace) (o0 : Value.okWide Try.prog W .any base 22 v0) (r0 : DataW.Trod enc Try.prog W 0 (fun _ => true) true 22 v0 d0 p0) (a1 : Int) (w1 : (Lit.int .u8 a1).wf = true) :
    Calls Try.prog 6 #[v0, .int .u8 a1] W fun e w' => e = .returned (.bool true) ∧ Below W.heap.size W w' := by
  obtain ⟨A, n, cap, F, rfl, hnm, hF⟩ := acts_of o0 r0
  have hr1 : 0 ≤ a1 ∧ a1 ≤ 255 := by
    simp [Lit.wf] at w1
    have h1 : IntKind.u8.min = 0 := rfl
    have h2 : IntKind.u8.max = 255 := rfl
    omega
  obtain ⟨r, hr⟩ : ∃ r : Nat, a1.tmod 64 = (r : Int) := ⟨(a1.tmod 64).toNat, by have := Int.tmod_nonneg 64 hr1.1; omega⟩
  have hr64 : r < 64 := by have := Int.tmod_lt_of_pos a1 (show (0 : Int) < 64 by omega); omega
  have hr64I : (r : Int) < 64 := by omega
  have HF := hide hF
  have AW := hide (awake_c W)
  have HR1 := hide hr1
  clear o0 r0 w1 hF hr1 hnm
  go_enter Try.func6, Try.ntmps6
  go_wp2_with fail
  refine AW.out.mono ?_
  rintro e wD1 ⟨rfl, hb1⟩
  have B1 := hide hb1
  have HF1 := hide (HF.out.below hb1)
  have GC := hide (Great_c cap HF1.out)
  clear hb1 AW HF
  go_wp2_with fail
  refine GC.out.mono ?_
  rintro e wD2 ⟨rfl, hu2⟩
  obtain rfl : wD1 = wD2 := hu2
  obtain ⟨b, hb⟩ : ∃ z, grt n F = z := ⟨_, rfl⟩
  rw [hb]
  cases b with
  | true =>
    clear hb
    go_wp2_with fail
    go_ret
    exact ⟨rfl, B1.out⟩
  | false =>
    have MC := hide (made_c14 A n cap F HF1.out (grt_small hb))
    clear hb GC
    go_wp2_with fail
    refine MC.out.mono ?_
    rintro e wD3 ⟨p, q, L, K, ls, l, rfl, hp, hll, hl, hb3⟩
    have HP3 := hide hp.pq
    have HLS := hide hll
    have HLL := hide hl
    have B3 := hide (B1.out.trans (hb3.mono B1.out.size))
    have WC := hide (waiting_c hp.pq.hp (fun k _ => by have := hll k; omega) (r : Int))
    have hrow : rowL ls (r : Int) = ls r := by unfold rowL; rw [if_pos ⟨by omega, hr64I⟩]; rfl
    rw [hrow] at WC
    have HUP := hide (hp.pq.hp.up r hr64)
    have HOK := hide (hp.pq.hp.ok r hr64)
    have HU := hide hp.pq.hq.uq
    clear hp hll hl hb3 MC hrow
    go_wp2_with fail
    refine WC.out.mono ?_
    rintro e wD4 ⟨Aw, cw, rfl, how, hb4⟩
    obtain ⟨xs, hxs⟩ : ∃ z, wts (ls r) = z := ⟨_, rfl⟩
    have HXM : Hid (∀ x ∈ xs, x ∈ ls r ∧ x.dn = false) := hide (fun x hx => wts_mem (by rw [hxs]; exact hx))
    have HXR : Hid (xs.Pairwise fun a b => a.ca < b.ca) := hide (by rw [← hxs]; exact wts_rise HUP.out)
    have HXW := hide hxs
    have hxl : xs.length ≤ 120 := by rw [← hxs]; exact Nat.le_trans (wts_len _) (HLS.out r)
    rw [hxs] at how
    rw [hxs]
    obtain ⟨nw, hnw⟩ : ∃ z, xs.length = z := ⟨_, rfl⟩
    rw [hnw] at how hxl
    rw [hnw]
    have RW := hide (RRow.of_own how hnw)
    have HNW := hide hnw
    have HXL := hide hxl
    have HP4 := hide (HP3.out.below hb4)
    have B4 := hide (B3.out.trans (hb4.mono B3.out.size))
    clear how hb4 WC hnw hxl hxs
    go_wp2_with fail
    go_loopw [7, 9, 10, 11] (fun v7 v9 _ _ wr => ∃ (i : Nat) (A1 : Option Addr) (c1 N : Nat), i ≤ nw ∧ v9 = .int .i64 i ∧ v7 = .slice A1 N c1 ∧ Hid ((allM l (ls r) (xs.take i)).length = N) ∧ Hid (wr.ownsRow wD4.heap.size 33 8 (.slice A1 N c1) N (msgCs (allM l (ls r) (xs.take i)))) ∧ Hid (Below wD4.heap.size wD4 wr)) (fun _ v9 _ _ _ => nw - (RowKit.intOf v9).toNat)
    case atStart => exact ⟨0, none, 0, 0, Nat.zero_le _, rfl, rfl, hide rfl, hide ⟨rfl, .inl ⟨rfl, rfl⟩⟩, hide (Below.refl _ _)⟩
    case round =>
      obtain ⟨i, A1, c1, N, hi, rfl, rfl, HN, HOW, HB⟩ := hrel
      rename World => wr
      have hnw1 := HXL.out
      by_cases hlt : i < nw
      · have hltI : (i : Int) < (nw : Int) := by omega
        obtain ⟨⟨ek, er, ec, ep, et, eq, ed, ef, es⟩, hx⟩ : ∃ m, xs[i]? = some m := ⟨_, List.getElem?_eq_getElem (by rw [HNW.out]; exact hlt)⟩
        have HX := hide hx
        have hxm := HXM.out _ (List.mem_of_getElem? hx)
        obtain rfl : er = (r : Int) := (HOK.out _ hxm.1).2
        obtain ⟨gw, rfl, hgw, hit⟩ := (RW.out.below HB.out).it i _ hx
        have n1 : wr.cell? ⟨gw, i * 9 + 1, none⟩ = some (.int .i64 (r : Int)) := hit 1 _ rfl
        have n2 : wr.cell? ⟨gw, i * 9 + 2, none⟩ = some (.int .i64 ec) := hit 2 _ rfl
        have HIT := hide hit
        have HGW := hide hgw
        have HPr := hide (HP4.out.below HB.out)
        have MY := hide (may_c (HPr.out.hp.below (Below.refl wr.heap.size wr).drew) (fun k _ => by have := HLS.out k; omega) (HPr.out.hq.below (Below.refl wr.heap.size wr).drew) (by have := HLL.out; omega) r hr64 ec)
        have HLT := hide hlt
        clear hx hxm hit hgw hlt
        go_upto_region 11 with (fail)
        go_still_tail 12, (by kernel_rfl)
        change wpList _ _ _ _ _ wr.drew
        go_wp2_with fail
        refine MY.out.mono ?_
        rintro e wm ⟨Am, cm, rfl, hom, hbm⟩
        obtain ⟨ml, hml⟩ : ∃ z, mayL l (ls r) ec = z := ⟨_, rfl⟩
        have hml64 := mayL_len l (ls r) ec
        have HRI := hide (may_rise l (ls r) ec)
        have HFT := hide (fun m (hm : m ∈ mayL l (ls r) ec) => may_of_wait HUP.out (x := ⟨ek, (r : Int), ec, ep, et, eq, ed, ef, es⟩) (by rw [HXW.out]; exact List.mem_of_getElem? HX.out) hm)
        rw [hml] at hom hml64 HRI HFT
        rw [hml]
        obtain ⟨m, hm⟩ : ∃ z, ml.length = z := ⟨_, rfl⟩
        rw [hm] at hom hml64
        rw [hm]
        have hbm' : Below wr.heap.size wr wm := (Below.refl wr.heap.size wr).drew.trans hbm
        have HBM := hide (HB.out.trans (hbm'.mono HB.out.size))
        have HOM := hide hom
        have HOW2 := hide (own_belowR HOW.out hbm')
        have HIT2 := hide (fun k v (h : (rcC ⟨ek, (r : Int), ec, ep, et, eq, ed, ef, es⟩)[k]? = some v) => (hbm'.cell (p := ⟨gw, i * 9 + k, none⟩) HGW.out).trans (HIT.out k v h))
        have HGW2 := hide (Nat.lt_of_lt_of_le HGW.out hbm'.size)
        have HMR := hide (MRow.of_own hom hm)
        have HML := hide hml
        have HM := hide hm
        have H64 := hide hml64
        clear hom hbm hbm' hml hm MY n1 n2 hml64
        go_wp2_with fail
        go_loopw [11] (fun v11 wk => ∃ k : Nat, k ≤ m ∧ v11 = .int .i64 k ∧ Hid (Below wm.heap.size wm wk)) (fun v11 _ => m - (RowKit.intOf v11).toNat)
        case atStart => exact ⟨0, Nat.zero_le _, rfl, hide (Below.refl _ _)⟩
        case round =>
          obtain ⟨k, hk, rfl, HBK⟩ := hrel
          rename World => wk
          have hm64 := H64.out
          by_cases hltk : k < m
          rotate_left
          · have hltkI : ¬ (k : Int) < (m : Int) := by omega
            have hNl : N ≤ 64 * 120 := by rw [← HN.out]; refine Nat.le_trans (allM_len _) ?_; have : (xs.take i).length ≤ i := by rw [List.length_take]; omega
                                          have := HXL.out; omega
            obtain ⟨A3, c3, w3, hrun, hown, hgr⟩ := push_ms wk wD4.heap.size A1 c1 N _ (own_belowR HOW2.out HBK.out) (Nat.le_trans HBM.out.size HBK.out.size) Am cm m ml (own_belowR HOM.out HBK.out) (by omega)
            have HB3 := hide ((HBM.out.trans (HBK.out.mono HBM.out.size)).grown hgr (Nat.le_trans HBM.out.size HBK.out.size) fun k e => (own_block (own_belowR HOW2.out HBK.out) e).1)
            have HS : allM l (ls r) (xs.take (i + 1)) = allM l (ls r) (xs.take i) ++ ml := by rw [← HML.out]; exact allM_step HX.out
            have HN3 := hide (show (allM l (ls r) (xs.take (i + 1))).length = N + m by rw [HS, List.length_append, HN.out, HM.out])
            have HOW3 := hide (show w3.ownsRow wD4.heap.size 33 8 (.slice A3 (N + m) c3) (N + m) (msgCs (allM l (ls r) (xs.take (i + 1)))) by rw [HS, msgCs_app]; exact hown)
            have RUN := hide hrun
            clear hrun hown hgr HS hltk hNl
            go_wp2_with (at_builtin; refine Lib.wpList_append_run _ rfl _ _ 45 45 rfl _ _ rfl rfl _ _ RUN.out ?_)
            go_roundw
            case rel => exact ⟨i + 1, A3, c3, N + m, HLT.out, by go_num, rfl, HN3, HOW3, HB3⟩
            case measure => have := HLT.out; simp [RowKit.intOf] <;> omega
          have hltkI : (k : Int) < (m : Int) := by omega
          have hk0 : (0 : Int) ≤ (k : Int) := by omega
          obtain ⟨⟨mk, mf, mt, mc, mg, mv, mz, mb⟩, hmm⟩ : ∃ y, ml[k]? = some y := ⟨_, List.getElem?_eq_getElem (by rw [HM.out]; exact hltk)⟩
          obtain ⟨htk, hft⟩ := HFT.out _ (List.mem_of_getElem? hmm)
          obtain rfl : mb = false := htk
          obtain ⟨gm, rfl, hgm, hit⟩ := (HMR.out.below HBK.out).it k _ hmm
          have HGK := hide (show gw < wk.heap.size ∧ gm < wk.heap.size from ⟨Nat.lt_of_lt_of_le HGW2.out HBK.out.size, hgm⟩)
          have WK := hide (fun k v (h : (rcC ⟨ek, (r : Int), ec, ep, et, eq, ed, ef, es⟩)[k]? = some v) => (HBK.out.cell (p := ⟨gw, i * 9 + k, none⟩) HGW2.out).trans (HIT2.out k v h))
          have NE : Nonempty (BelowOf wk) := ⟨⟨wk, Below.refl _ _⟩⟩
          have e0 : ∀ z : BelowOf wk, z.world.cell? ⟨gw, i * 9, none⟩ = some (.string ek) := fun z => z.cell HGK.out.1 (WK.out 0 _ rfl)
          have e1 : ∀ z : BelowOf wk, z.world.cell? ⟨gw, i * 9 + 1, none⟩ = some (.int .i64 (r : Int)) := fun z => z.cell HGK.out.1 (WK.out 1 _ rfl)
          have e2 : ∀ z : BelowOf wk, z.world.cell? ⟨gw, i * 9 + 2, none⟩ = some (.int .i64 ec) := fun z => z.cell HGK.out.1 (WK.out 2 _ rfl)
          have e3 : ∀ z : BelowOf wk, z.world.cell? ⟨gw, i * 9 + 3, none⟩ = some (.int .i64 ep) := fun z => z.cell HGK.out.1 (WK.out 3 _ rfl)
          have e4 : ∀ z : BelowOf wk, z.world.cell? ⟨gw, i * 9 + 4, none⟩ = some (.int .i64 et) := fun z => z.cell HGK.out.1 (WK.out 4 _ rfl)
          have e5 : ∀ z : BelowOf wk, z.world.cell? ⟨gw, i * 9 + 5, none⟩ = some (.int .i64 eq) := fun z => z.cell HGK.out.1 (WK.out 5 _ rfl)
          have e6 : ∀ z : BelowOf wk, z.world.cell? ⟨gw, i * 9 + 6, none⟩ = some (.bool ed) := fun z => z.cell HGK.out.1 (WK.out 6 _ rfl)
          have e7 : ∀ z : BelowOf wk, z.world.cell? ⟨gw, i * 9 + 7, none⟩ = some (.int .i64 ef) := fun z => z.cell HGK.out.1 (WK.out 7 _ rfl)
          have e8 : ∀ z : BelowOf wk, z.world.cell? ⟨gw, i * 9 + 8, none⟩ = some (.int .i64 es) := fun z => z.cell HGK.out.1 (WK.out 8 _ rfl)
          have m0 : ∀ z : BelowOf wk, z.world.cell? ⟨gm, k * 8, none⟩ = some (.string mk) := fun z => z.cell HGK.out.2 (hit 0 _ rfl)
          have m1 : ∀ z : BelowOf wk, z.world.cell? ⟨gm, k * 8 + 1, none⟩ = some (.int .i64 mf) := fun z => z.cell HGK.out.2 (hit 1 _ rfl)
          have m2 : ∀ z : BelowOf wk, z.world.cell? ⟨gm, k * 8 + 2, none⟩ = some (.int .i64 mt) := fun z => z.cell HGK.out.2 (hit 2 _ rfl)
          have m3 : ∀ z : BelowOf wk, z.world.cell? ⟨gm, k * 8 + 3, none⟩ = some (.int .i64 mc) := fun z => z.cell HGK.out.2 (hit 3 _ rfl)
          have m4 : ∀ z : BelowOf wk, z.world.cell? ⟨gm, k * 8 + 4, none⟩ = some (.int .i64 mg) := fun z => z.cell HGK.out.2 (hit 4 _ rfl)
          have m5 : ∀ z : BelowOf wk, z.world.cell? ⟨gm, k * 8 + 5, none⟩ = some (.int .i64 mv) := fun z => z.cell HGK.out.2 (hit 5 _ rfl)
          have m6 : ∀ z : BelowOf wk, z.world.cell? ⟨gm, k * 8 + 6, none⟩ = some (.int .i64 mz) := fun z => z.cell HGK.out.2 (hit 6 _ rfl)
          have m7 : ∀ z : BelowOf wk, z.world.cell? ⟨gm, k * 8 + 7, none⟩ = some (.bool false) := fun z => z.cell HGK.out.2 (hit 7 _ rfl)
          have FC := hide (fun w => fits_c ek (r : Int) ec ep et eq ed ef es mk mf mt mc mg mv mz false w)
          rw [hft] at FC
          have HMM := hide hmm
          have HLK := hide hltk
          clear hft hgm hit hmm WK hltk
          by_cases h0 : k = 0
          · have hd : decide ((0 : Int) < (k : Int)) = false := by simp [h0]
            have hdn : decide (0 < k) = false := by simp [h0]
            clear h0
            go_upto_region 15 with (fail)
            refine wp_region_quiet_below (by kernel_rfl) (by kernel_rfl) ?_
            repeat (go_big_quiet_step (first
              | (go_at_call 21; refine calls_below (FC.out _))))
            refine wpQuiet_nil ?_
            rintro Wq ⟨⟨_, hq⟩, rfl⟩
            have HBQ := hide (HBK.out.trans (hq.mono HBK.out.size))
            clear hq e0 e1 e2 e3 e4 e5 e6 e7 e8 m0 m1 m2 m3 m4 m5 m6 m7 NE
            go_wp2_with fail
            go_roundw
            case rel => exact ⟨k + 1, HLK.out, by go_num, HBQ⟩
            case measure => have := HLK.out; simp [RowKit.intOf] <;> omega
          · obtain ⟨j, hj⟩ : ∃ j, k = j + 1 := ⟨k - 1, by omega⟩
            have hd : (0 : Int) < (k : Int) := by omega
            have hdn : 0 < k := by omega
            have hsub : (k : Int) - 1 = (j : Int) := by omega
            have hj0 : (0 : Int) ≤ (j : Int) := by omega
            have hj1 : (j : Int) < (m : Int) := by omega
            have hwr : IntKind.i64.wrap (j : Int) = (j : Int) := by rw [IntKind.wrap_i64]; omega
            obtain ⟨m', hm'⟩ : ∃ y, ml[j]? = some y := ⟨_, List.getElem?_eq_getElem (by rw [HM.out]; omega)⟩
            obtain ⟨g', hg', _, hit'⟩ := (HMR.out.below HBK.out).it j _ hm'
            cases hg'
            have mp : ∀ z : BelowOf wk, z.world.cell? ⟨gm, j * 8 + 1, none⟩ = some (.int .i64 m'.fr) := fun z => z.cell HGK.out.2 (hit' 1 _ rfl)
            have hri : m'.fr < mf := by
              obtain ⟨h1, e1⟩ := List.getElem?_eq_some_iff.1 hm'
              obtain ⟨h2, e2⟩ := List.getElem?_eq_some_iff.1 HMM.out
              have := (List.pairwise_iff_getElem.1 HRI.out) j k h1 h2 (by omega)
              rw [e1, e2] at this
              exact this
            obtain ⟨pf, hpf⟩ : ∃ z, m'.fr = z := ⟨_, rfl⟩
            rw [hpf] at mp hri
            have hle : decide (mf ≤ pf) = false := by simp; omega
            clear hit' hm' hj hri hpf h0
            go_upto_region 15 with (fail)
            refine wp_region_quiet_below (by kernel_rfl) (by kernel_rfl) ?_
            repeat (go_big_quiet_step (first
              | (go_at_call 21; refine calls_below (FC.out _))))
            refine wpQuiet_nil ?_
            rintro Wq ⟨⟨_, hq⟩, rfl⟩
            have HBQ := hide (HBK.out.trans (hq.mono HBK.out.size))
            clear hq e0 e1 e2 e3 e4 e5 e6 e7 e8 m0 m1 m2 m3 m4 m5 m6 m7 mp NE
            go_wp2_with fail
            go_roundw
            case rel => exact ⟨k + 1, HLK.out, by go_num, HBQ⟩
            case measure => have := HLK.out; simp [RowKit.intOf] <;> omega
      · have hltI : ¬ (i : Int) < (nw : Int) := by omega
        have HAL : xs.take i = xs := List.take_of_length_le (by rw [HNW.out]; omega)
        rw [HAL] at HN HOW
        have HN2 : Hid (N ≤ 64 * 120) := hide (by rw [← HN.out]; have := allM_len (l := l) (rs := ls r) xs; have := HNW.out; omega)
        have HAP := hide (all_apart HU.out HUP.out HXR.out)
        obtain ⟨al, hal⟩ : ∃ z, allM l (ls r) xs = z := ⟨_, rfl⟩
        rw [hal] at HN HOW HAP
        have HMA := hide (MRow.of_own HOW.out HN.out)
        have HBA := hide (B4.out.trans (HB.out.mono B4.out.size))
        clear hal HAL hlt
        go_wp2_with fail
        go_loopw [12, 13] (fun v12 _ ws => ∃ i : Nat, i ≤ N ∧ v12 = .int .i64 i ∧ Hid (Below wr.heap.size wr ws)) (fun v12 _ _ => N - (RowKit.intOf v12).toNat)
        case atStart => exact ⟨0, Nat.zero_le _, rfl, hide (Below.refl _ _)⟩
        case round =>
          obtain ⟨a, ha, rfl, HBS⟩ := hrel
          rename World => ws
          have hN2 := HN2.out
          by_cases hlta : a < N
          rotate_left
          · have hltaI : ¬ (a : Int) < (N : Int) := by omega
            go_wp2_with fail
            go_ret
            exact ⟨rfl, HBA.out.trans (HBS.out.mono HBA.out.size)⟩
          have hltaI : (a : Int) < (N : Int) := by omega
          have HLA := hide hlta
          go_wp2_with fail
          go_loopw [13] (fun v13 wt => ∃ k : Nat, k ≤ a ∧ v13 = .int .i64 k ∧ Hid (Below wr.heap.size wr wt)) (fun v13 _ => a - (RowKit.intOf v13).toNat)
          case atStart => exact ⟨0, Nat.zero_le _, rfl, HBS⟩
          case round =>
            obtain ⟨k, hk, rfl, HBT⟩ := hrel
            rename World => wt
            by_cases hltk : k < a
            rotate_left
            · have hltkI : ¬ (k : Int) < (a : Int) := by omega
              go_wp2_with fail
              go_roundw
              case rel => exact ⟨a + 1, HLA.out, by go_num, HBT⟩
              case measure => have := HLA.out; simp [RowKit.intOf] <;> omega
            have hltkI : (k : Int) < (a : Int) := by omega
            have hkN : (k : Int) < (N : Int) := by omega
            obtain ⟨ma, hma⟩ : ∃ y, al[a]? = some y := ⟨_, List.getElem?_eq_getElem (by rw [HN.out]; exact hlta)⟩
            obtain ⟨mk, hmk⟩ : ∃ y, al[k]? = some y := ⟨_, List.getElem?_eq_getElem (by rw [HN.out]; omega)⟩
            obtain ⟨ga, rfl, hga, hita⟩ := (HMA.out.below HBT.out).it a _ hma
            obtain ⟨g', hg', _, hitk⟩ := (HMA.out.below HBT.out).it k _ hmk
            cases hg'
            have a1 : wt.cell? ⟨ga, a * 8 + 1, none⟩ = some (.int .i64 ma.fr) := hita 1 _ rfl
            have a3 : wt.cell? ⟨ga, a * 8 + 3, none⟩ = some (.int .i64 ma.ca) := hita 3 _ rfl
            have k1 : wt.cell? ⟨ga, k * 8 + 1, none⟩ = some (.int .i64 mk.fr) := hitk 1 _ rfl
            have k3 : wt.cell? ⟨ga, k * 8 + 3, none⟩ = some (.int .i64 mk.ca) := hitk 3 _ rfl
            have hne : ¬ (ma.fr = mk.fr ∧ ma.ca = mk.ca) := by
              obtain ⟨h1, e1⟩ := List.getElem?_eq_some_iff.1 hmk
              obtain ⟨h2, e2⟩ := List.getElem?_eq_some_iff.1 hma
              have := (List.pairwise_iff_getElem.1 HAP.out) k a h1 h2 hltk
              rw [e1, e2] at this
              exact fun h => this ⟨h.1.symm, h.2.symm⟩
            obtain ⟨fa, hfa⟩ : ∃ z, ma.fr = z := ⟨_, rfl⟩
            obtain ⟨ca, hca⟩ : ∃ z, ma.ca = z := ⟨_, rfl⟩
            obtain ⟨fk, hfk⟩ : ∃ z, mk.fr = z := ⟨_, rfl⟩
            obtain ⟨ck, hck⟩ : ∃ z, mk.ca = z := ⟨_, rfl⟩
            rw [hfa] at a1 hne
            rw [hca] at a3 hne
            rw [hfk] at k1 hne
            rw [hck] at k3 hne
            have HLK := hide hltk
            clear hita hitk hga hma hmk hfa hca hfk hck hltk
            by_cases hf : fa = fk
            · have hcn : (ca == ck) = false := by simp; exact fun h => hne ⟨hf, h⟩
              have hfe : (fa == fk) = true := by simp [hf]
              clear hf hne
              go_upto_region 24 with (fail)
              go_quiet (fail)
              go_wp2_with fail
              go_roundw
              case rel => exact ⟨k + 1, HLK.out, by go_num, hide (HBT.out.trans ((below_draws _ _ _).mono HBT.out.size))⟩
              case measure => have := HLK.out; simp [RowKit.intOf] <;> omega
            · have hfe : (fa == fk) = false := by simp [hf]
              clear hf hne
              go_upto_region 24 with (fail)
              go_quiet (fail)
              go_wp2_with fail
              go_roundw
              case rel => exact ⟨k + 1, HLK.out, by go_num, hide (HBT.out.trans ((below_draws _ _ _).mono HBT.out.size))⟩
              case measure => have := HLK.out; simp [RowKit.intOf] <;> omega
end Go.Proofs.Ytonmojinijpneaa.PostedOneW
