/- The walk of the statement PostedGrows: of any acts, others behind them, and any rank; without conditions. -/
import Derived.Test.YtonmojinijpneaaRows
import Derived.Test.YtonmojinijpneaaPoAe
namespace Go.Proofs.Ytonmojinijpneaa.PostedGrowsW
open Go Go.Joins Go.ChangeShapes Go.WideShapes Go.RowKit Go.Deep Go.Lib Go.Proofs.Ytonmojinijpneaa Go.Proofs.Ytonmojinijpneaa.Po Go.Proofs.Ytonmojinijpneaa.Qu
set_option linter.unusedVariables false
set_option linter.unusedSimpArgs false
theorem at_of {rs : List Rc} (hup : rs.Pairwise fun a b => a.ca < b.ca) {y : Rc} (hy : y ∈ rs) : atL rs y.ca = some y := by
  obtain ⟨i, hi⟩ := List.getElem?_of_mem hy
  exact rise_find rs i y hup hi
/-- The rows tell what may be, of those that wait. -/
def Inv (xs : List Rc) (rs : List Rc) (l : List Msg) (R : Nat → List Msg) : Prop := ∀ i x, xs[i]? = some x → (R i).length ≤ 64 ∧ ∃ y ∈ rs, y.ca = x.ca ∧ (y.dn = false → ∀ m ∈ R i, m ∈ mayL l rs x.ca)
/-- A row of receives that lies away from all, below a block. -/
def WR (w : World) (B p q : Nat) (L : Nat → Option Addr × Nat) (K : QL) (A : Option Addr) (xs : List Rc) : Prop := RRow w A xs ∧ ∀ g, A = some ⟨g, 0, none⟩ → xs ≠ [] → Away w p q L K g ∧ g < B
theorem WR.go {w w' : World} {B p q : Nat} {L L' : Nat → Option Addr × Nat} {K K' : QL} {A : Option Addr} {xs : List Rc} (h : WR w B p q L K A xs) (hs : w.heap.size ≤ w'.heap.size) (hw : ∀ g, Away w p q L K g → g < B → Away w' p q L' K' g ∧ w'.heap[g]? = w.heap[g]?) : WR w' B p q L' K' A xs := by
  by_cases e : xs = []
  · subst e
    exact ⟨⟨fun i m hm => by cases hm⟩, fun g _ h => absurd rfl h⟩
  · exact ⟨RRow.heap h.1 hs fun g hg => (hw g (h.2 g hg e).1 (h.2 g hg e).2).2, fun g hg _ => ⟨(hw g (h.2 g hg e).1 (h.2 g hg e).2).1, (h.2 g hg e).2⟩⟩
set_option maxRecDepth 100000 in
set_option maxHeartbeats 16000000 in
theorem walk {H : Type} {enc : TypeId × Value → H} {base : Nat} (W : World) (v0 : Value) (d0 : DataW H) (p0 : List MemPlace) (o0 : Value.okWide Try.prog W .any base 22 v0) (r0 : DataW.Trod enc Try.prog W 0 (fun _ => true) true 22 v0 d0 p0) (v1 : Value) (d1 : DataW H) (p1 : List MemPlace) (o1 : Value.okWide Try.prog W .any base 22 v1) (r1 : DataW.Trod enc Try.prog W 0 (fun _ => true) true 22 v1 d1 p1) (a2 : Int) (w2 : (Lit.int .u8 a2).wf = true) :
    Calls Try.prog 7 #[v0, v1, .int .u8 a2] W fun e w' => e = .returned (.bool true) ∧ Below W.heap.size W w' := by
  obtain ⟨A, n, cap, F, rfl, hnm, hF⟩ := acts_of o0 r0
  obtain ⟨A2, n2, cap2, F2, rfl, hnm2, hF2⟩ := acts_of o1 r1
  have hr1 : 0 ≤ a2 ∧ a2 ≤ 255 := by
    simp [Lit.wf] at w2
    have h1 : IntKind.u8.min = 0 := rfl
    have h2 : IntKind.u8.max = 255 := rfl
    omega
  obtain ⟨r, hr⟩ : ∃ r : Nat, a2.tmod 64 = (r : Int) := ⟨(a2.tmod 64).toNat, by have := Int.tmod_nonneg 64 hr1.1; omega⟩
  have hr64 : r < 64 := by have := Int.tmod_lt_of_pos a2 (show (0 : Int) < 64 by omega); omega
  have hr64I : (r : Int) < 64 := by omega
  have HF := hide hF
  have HF2 := hide hF2
  have AW := hide (awake_c W)
  have HR1 := hide hr1
  clear o0 r0 o1 r1 w2 hF hF2 hr1 hnm hnm2
  go_enter Try.func7, Try.ntmps7
  go_wp2_with fail
  refine AW.out.mono ?_
  rintro e wA ⟨rfl, hb1⟩
  have BA := hide hb1
  have HFA := hide (HF.out.below hb1)
  have GC := hide (Great_c cap HFA.out)
  have GC2 := hide (Great_c cap2 (HF2.out.below hb1))
  clear hb1 AW HF
  obtain ⟨b, hb⟩ : ∃ z, grt n F = z := ⟨_, rfl⟩
  rw [hb] at GC
  cases b with
  | true =>
    clear hb
    go_wp2_with fail
    refine GC.out.mono ?_
    rintro e wA2 ⟨rfl, hwA2⟩
    obtain rfl : wA = wA2 := hwA2
    go_wp2_with fail
    go_ret
    exact ⟨rfl, BA.out⟩
  | false =>
    go_wp2_with fail
    refine GC.out.mono ?_
    rintro e wA2 ⟨rfl, hwA2⟩
    obtain rfl : wA = wA2 := hwA2
    obtain ⟨b2, hb2⟩ : ∃ z, grt n2 F2 = z := ⟨_, rfl⟩
    rw [hb2] at GC2
    cases b2 with
    | true =>
      clear hb hb2
      go_wp2_with fail
      refine GC2.out.mono ?_
      rintro e wA3 ⟨rfl, hwA3⟩
      obtain rfl : wA = wA3 := hwA3
      go_wp2_with fail
      go_ret
      exact ⟨rfl, BA.out⟩
    | false =>
      have HN2 := hide (grt_small hb2)
      have MC := hide (made_c14 A n cap F HFA.out (grt_small hb))
      clear hb hb2 GC
      go_wp2_with fail
      refine GC2.out.mono ?_
      rintro e wA3 ⟨rfl, hwA3⟩
      obtain rfl : wA = wA3 := hwA3
      clear GC2
      go_wp2_with fail
      refine MC.out.mono ?_
      rintro e wC ⟨p, q, L, K, ls, l, rfl, hp, hll, hl, hb3⟩
      have HP3 := hide (show P1 wC W.heap.size p q L K ls l from ⟨hp.pq, fun b hb => Nat.le_trans BA.out.size (hp.fb b hb)⟩)
      have HLS := hide hll
      have HLL := hide hl
      have B3 := hide (BA.out.trans (hb3.mono BA.out.size))
      have WC := hide (waiting_c hp.pq.hp (fun k _ => by have := hll k; omega) (r : Int))
      have hrow : rowL ls (r : Int) = ls r := by unfold rowL; rw [if_pos ⟨by omega, hr64I⟩]; rfl
      rw [hrow] at WC
      have HUP := hide (hp.pq.hp.up r hr64)
      clear hp hll hl hb3 MC hrow
      go_wp2_with fail
      refine WC.out.mono ?_
      rintro e wD ⟨Aw, cw, rfl, how, hb4⟩
      obtain ⟨xs, hxs⟩ : ∃ z, wts (ls r) = z := ⟨_, rfl⟩
      have HXM : Hid (∀ x ∈ xs, x ∈ ls r ∧ x.dn = false) := hide (fun x hx => wts_mem (by rw [hxs]; exact hx))
      have hxl : xs.length ≤ 120 := by rw [← hxs]; exact Nat.le_trans (wts_len _) (HLS.out r)
      rw [hxs] at how
      rw [hxs]
      obtain ⟨nw, hnw⟩ : ∃ z, xs.length = z := ⟨_, rfl⟩
      rw [hnw] at how hxl
      rw [hnw]
      have RW := hide (show WR wD wD.heap.size p q L K Aw xs from ⟨RRow.of_own how hnw, fun g hA hne => by
        have h0 : 0 < nw := by rw [← hnw]; exact List.length_pos_iff.2 hne
        obtain ⟨g', hA', hge, _, ⟨cs', hbk⟩, _⟩ := own_cell how h0
        rw [hA] at hA'
        cases hA'
        exact ⟨⟨hbk.lt, fun hm => by have := HP3.out.pq.lt g hm; omega⟩, hbk.lt⟩⟩)
      have HNW := hide hnw
      have HXL := hide hxl
      have HP4 := hide (HP3.out.below hb4)
      have B4 := hide (B3.out.trans (hb4.mono B3.out.size))
      clear how hb4 WC hnw hxl hxs HP3
      go_wp2_with fail
      go_loopw [11, 12] (fun v11 v12 wr => ∃ (i : Nat) (As : Option Addr) (cs : Nat) (R : Nat → List Msg) (V : Nat → Option Addr × Nat), i ≤ nw ∧ v12 = .int .i64 i ∧ v11 = .slice As i cs ∧ Hid (Was wr wD.heap.size p q L K As cs i R V) ∧ Hid (∀ j x, j < i → xs[j]? = some x → (R j).length ≤ 64 ∧ ∀ m ∈ R j, m ∈ mayL l (ls r) x.ca) ∧ Hid (Below wD.heap.size wD wr)) (fun _ v12 _ => nw - (RowKit.intOf v12).toNat)
      case atStart => exact ⟨0, none, 0, fun _ => [], fun _ => (none, 0), Nat.zero_le _, rfl, rfl, hide ⟨⟨rfl, .inl ⟨rfl, rfl⟩⟩, fun g hg => (by simp [Value.ownBlock] at hg), fun i hi => absurd hi (Nat.not_lt_zero i)⟩, hide (fun j x hj _ => absurd hj (Nat.not_lt_zero j)), hide (Below.refl _ _)⟩
      case round =>
        obtain ⟨i, As, cs, R, V, hi, rfl, rfl, HWS, HIN, HB⟩ := hrel
        rename World => wr
        have hnw1 := HXL.out
        by_cases hlt : i < nw
        · have hltI : (i : Int) < (nw : Int) := by omega
          obtain ⟨x, hx⟩ : ∃ m, xs[i]? = some m := ⟨_, List.getElem?_eq_getElem (by rw [HNW.out]; exact hlt)⟩
          have HX := hide hx
          obtain ⟨gw, rfl, hgw, hit⟩ := ((RW.out.1).below HB.out).it i _ hx
          obtain ⟨ec, hec⟩ : ∃ z, x.ca = z := ⟨_, rfl⟩
          have n2' : wr.cell? ⟨gw, i * 9 + 2, none⟩ = some (.int .i64 ec) := by rw [← hec]; exact hit 2 _ rfl
          have HEC := hide hec
          have HPr := hide (HP4.out.below HB.out)
          have MY := hide (may_c HPr.out.pq.hp (fun k _ => by have := HLS.out k; omega) HPr.out.pq.hq (by have := HLL.out; omega) r hr64 ec)
          have HLT := hide hlt
          clear hx hit hgw hlt hec
          go_wp2_with fail
          refine MY.out.mono ?_
          rintro e wm ⟨Am, cm, rfl, hom, hbm⟩
          have hml64 := mayL_len l (ls r) ec
          have hra := RowA.of (o := (Value.slice As i cs).ownBlock) hom rfl HPr.out.pq.lt (fun g hg => (HWS.out.gaw g hg).1)
          have hws := HWS.out.below hbm
          have HBM := hide (HB.out.trans (hbm.mono HB.out.size))
          obtain ⟨A3, c3, w3, hrun, hws3, hb3⟩ := hws.push HBM.out.size (HPr.out.below hbm).pq.lt (by omega) (c := cm) rfl hra
          have HWS3 := hide hws3
          have HB3 := hide (HBM.out.trans hb3)
          have HIN3 := hide (show ∀ j x, j < i + 1 → xs[j]? = some x → (updF R i (mayL l (ls r) ec) j).length ≤ 64 ∧ ∀ m ∈ updF R i (mayL l (ls r) ec) j, m ∈ mayL l (ls r) x.ca from fun j x' hj hx' => by
            by_cases e : j = i
            · subst e
              have e2 := hx'.symm.trans HX.out
              injection e2 with e2
              subst e2
              rw [updF_at, HEC.out]
              exact ⟨hml64, fun m hm => hm⟩
            · rw [updF_ne R i _ e]
              exact HIN.out j x' (by omega) hx')
          have RUN := hide hrun
          clear hrun hom hbm hra hws hws3 hb3 n2' MY
          go_wp2_with (at_builtin; refine Lib.wpList_append_run _ rfl _ _ 69 69 rfl _ _ rfl rfl _ _ RUN.out ?_)
          go_roundw
          case rel => exact ⟨i + 1, A3, c3, _, _, HLT.out, by go_num, rfl, HWS3, HIN3, HB3⟩
          case measure => have := HLT.out; simp [RowKit.intOf] <;> omega
        · have hltI : ¬ (i : Int) < (nw : Int) := by omega
          obtain rfl : i = nw := by omega
          have HPr := hide (HP4.out.below HB.out)
          have RWr := hide (RW.out.go (w' := wr) HB.out.size (fun g hg hgb => away_below HB.out g hg))
          have HIV := hide (show Inv xs (ls r) l R from fun j x hx => ⟨(HIN.out j x (by rw [← HNW.out]; exact (List.getElem?_eq_some_iff.1 hx).1) hx).1, x, (HXM.out x (List.mem_of_getElem? hx)).1, rfl, fun _ => (HIN.out j x (by rw [← HNW.out]; exact (List.getElem?_eq_some_iff.1 hx).1) hx).2⟩)
          have Br := hide (B4.out.trans (HB.out.mono B4.out.size))
          have HDS := hide B4.out.size
          clear hlt HIN hltI
          go_wp2_with fail
          go_loopw [13, 14, 15, 16, 17] (fun v13 _ _ _ _ wr => ∃ (c : Nat) (L : Nat → Option Addr × Nat) (K : QL) (ls : Nat → List Rc) (l : List Msg) (R : Nat → List Msg) (V : Nat → Option Addr × Nat), c ≤ n2 ∧ v13 = .int .i64 c ∧ Hid ((∀ k, (ls k).length ≤ 120 + c) ∧ l.length ≤ 120 + c) ∧ Hid (P1 wr W.heap.size p q L K ls l) ∧ Hid (Was wr wD.heap.size p q L K As cs i R V) ∧ Hid (WR wr wD.heap.size p q L K Aw xs) ∧ Hid (Inv xs (ls r) l R) ∧ Hid (Below W.heap.size W wr)) (fun v13 _ _ _ _ _ => n2 - (RowKit.intOf v13).toNat)
          case atStart => exact ⟨0, L, K, ls, l, R, V, Nat.zero_le _, rfl, hide ⟨HLS.out, HLL.out⟩, HPr, HWS, RWr, HIV, Br⟩
          case round =>
            clear HLS HLL HP4 B4 HPr HWS RWr HIV Br HUP HXM HB RW
            obtain ⟨c, L, K, ls, l, R, V, hc, rfl, HLS, HP, HWS, RW, HIV, HB⟩ := hrel
            rename World => wr
            have hn2 := HN2.out
            by_cases hlt : c < n2
            rotate_left
            · have hltI : ¬ (c : Int) < (n2 : Int) := by omega
              go_wp2_with fail
              go_ret
              exact ⟨rfl, HB.out⟩
            have hltI : (c : Int) < (n2 : Int) := by omega
            obtain ⟨a, rfl, k0, k1, hc⟩ := (HF2.out.below HB.out).load hlt
            obtain ⟨x, hx⟩ : ∃ z, F2 c = z := ⟨_, rfl⟩
            rw [hx] at k0 k1 hc
            obtain ⟨kd, ⟨xk, xf, xt, xc, xg, xv, xz, xb⟩, ⟨yk, yr, yc, yp, yt, yq, yd, yf, ys⟩⟩ := x
            simp only at k0 k1
            have HC := hide (show ∀ j v, (#[.int .u8 kd, .string xk, .int .i64 xf, .int .i64 xt, .int .i64 xc, .int .i64 xg, .int .i64 xv, .int .i64 xz, .bool xb, .string yk, .int .i64 yr, .int .i64 yc, .int .i64 yp, .int .i64 yt, .int .i64 yq, .bool yd, .int .i64 yf, .int .i64 ys] : Array Value).toList[j]? = some v → wr.cell? ((a.add (c * 18)).add j) = some v from hc)
            have AC := hide (act_c HP.out.pq (fun k _ => by have := HLS.out.1 k; omega) (by have := HLS.out.2; omega) kd k0 k1 xk xf xt xc xg xv xz xb yk yr yc yp yt yq yd yf ys)
            have HLT := hide hlt
            clear hc hx hlt k0 k1
            go_wp2_with (refine wpList_load_cells rfl 37 _ rfl (a.add (c * 18)) rfl _ _ HC.out Try.underlying37 rfl act_size ?_)
            refine AC.out.mono ?_
            rintro e w5 ⟨⟨v, rfl⟩, ls', l', hst, hgo⟩
            have hsz : wr.heap.size ≤ w5.heap.size := by obtain ⟨_, _, _, hch, _⟩ := hgo; exact hch.size
            obtain ⟨L', K', h1, h2, hw⟩ := HP.out.go HB.out.size hgo
            have HP1 := hide h1
            have HB1 := hide (HB.out.trans h2)
            have HWS1 := hide (HWS.out.go hsz hw)
            have RW1 := hide (RW.out.go hsz (fun g hg _ => hw g hg))
            have HL1 : Hid ((∀ k, (ls' k).length ≤ 120 + (c + 1)) ∧ l'.length ≤ 120 + (c + 1)) := hide ⟨fun k => Nat.le_trans (hst.len.1 k) (Nat.succ_le_succ (HLS.out.1 k)), Nat.le_trans hst.len.2 (Nat.succ_le_succ HLS.out.2)⟩
            have HIV1 := hide (show Inv xs (ls' r) l' R from fun j x hx => by
              obtain ⟨hlen, y, hy, hyc, hyi⟩ := HIV.out j x hx
              obtain ⟨y', hy', hyc', hg⟩ := grows_step hst HP.out.pq.hq.uq HP.out.pq.hp.up h1.pq.hp.up HP.out.pq.hp.ok r hr64 hy
              refine ⟨hlen, y', hy', hyc'.trans hyc, fun hd m hm => ?_⟩
              have h3 := hg hd
              rw [hyc] at h3
              exact h3.2 m (hyi h3.1 m hm))
            clear hgo h1 h2 hw hst hsz AC HC HWS RW HIV HP HLS
            go_wp2_with fail
            go_loopw [14, 15, 16, 17] (fun v14 _ _ _ wt => ∃ (j : Nat) (R : Nat → List Msg) (V : Nat → Option Addr × Nat), j ≤ i ∧ v14 = .int .i64 j ∧ Hid (P1 wt W.heap.size p q L' K' ls' l') ∧ Hid (Was wt wD.heap.size p q L' K' As cs i R V) ∧ Hid (WR wt wD.heap.size p q L' K' Aw xs) ∧ Hid (Inv xs (ls' r) l' R) ∧ Hid (Below W.heap.size W wt)) (fun v14 _ _ _ _ => i - (RowKit.intOf v14).toNat)
            case atStart => exact ⟨0, R, V, Nat.zero_le _, rfl, HP1, HWS1, RW1, HIV1, HB1⟩
            case round =>
              clear HP1 HWS1 RW1 HIV1 HB1 HB
              obtain ⟨j, R, V, hj, rfl, HP, HWS, RW, HIV, HB⟩ := hrel
              rename World => wt
              have hnw1 := HXL.out
              by_cases hlj : j < i
              rotate_left
              · have hljI : ¬ (j : Int) < (i : Int) := by omega
                go_wp2_with fail
                go_roundw
                case rel => exact ⟨c + 1, L', K', ls', l', R, V, HLT.out, by go_num, HL1, HP, HWS, RW, HIV, HB⟩
                case measure => have := HLT.out; simp [RowKit.intOf] <;> omega
              have hljI : (j : Int) < (i : Int) := by omega
              obtain ⟨x, hx⟩ : ∃ m, xs[j]? = some m := ⟨_, List.getElem?_eq_getElem (by rw [HNW.out]; exact hlj)⟩
              have HX := hide hx
              obtain ⟨gw, rfl, hgw, hit⟩ := RW.out.1.it j _ hx
              have hgW := (RW.out.2 gw rfl (fun e => by rw [e] at hx; cases hx)).2
              obtain ⟨hlen, y, hy, hyc, hyi⟩ := HIV.out j x hx
              have hat := at_of (HP.out.pq.hp.up r hr64) hy
              rw [hyc] at hat
              have hxy : x.ca = y.ca := hyc.symm
              obtain ⟨ek, er, ec, ep, et, eq, ed, ef, es⟩ := y
              have hxy : x.ca = ec := hxy
              rw [hxy] at hat hyi
              have n2' : wt.cell? ⟨gw, j * 9 + 2, none⟩ = some (.int .i64 ec) := by rw [← hxy]; exact hit 2 _ rfl
              have HXC := hide hxy
              have HYI : Hid (ed = false → ∀ m ∈ R j, m ∈ mayL l' (ls' r) ec) := hide hyi
              have HYM := hide hy
              have HYL := hide hlen
              have HGW := hide hgw
              have HGWB := hide hgW
              have HLJ := hide hlj
              have HLN := hide (show ∀ k, k < 64 → (ls' k).length ≤ 1000 from fun k _ => by have := HL1.out.1 k; omega)
              have AC : Hid (Calls Try.prog 13 #[.pointer (some ⟨p, 0, none⟩), .int .i64 (r : Int), .int .i64 ec] wt fun e w' => e = .returned (.tuple #[.agg #[.string ek, .int .i64 er, .int .i64 ec, .int .i64 ep, .int .i64 et, .int .i64 eq, .bool ed, .int .i64 ef, .int .i64 es], .bool true]) ∧ Below wt.heap.size wt w') := hide (by
                have h := at_c HP.out.pq.hp HLN.out r hr64 ec
                rw [hat] at h
                exact h)
              clear hx hit hgw hgW hlen hy hyc hyi hat hxy hlj
              go_wp2_with fail
              refine AC.out.mono ?_
              rintro e wu ⟨rfl, hbu⟩
              have bx := (Below.refl wu.heap.size wu).alloc (Nat.le_refl _) (.cells #[.string ek, .int .i64 er, .int .i64 ec, .int .i64 ep, .int .i64 et, .int .i64 eq, .bool ed, .int .i64 ef, .int .i64 es] 35)
              have kx := Blk.new wu 35 #[.string ek, .int .i64 er, .int .i64 ec, .int .i64 ep, .int .i64 et, .int .i64 eq, .bool ed, .int .i64 ef, .int .i64 es]
              obtain ⟨wv, hwv⟩ : ∃ z, wu.alloc (.cells #[.string ek, .int .i64 er, .int .i64 ec, .int .i64 ep, .int .i64 et, .int .i64 eq, .bool ed, .int .i64 ef, .int .i64 es] 35) = z := ⟨_, rfl⟩
              obtain ⟨Y, hY⟩ : ∃ z, wu.heap.size = z := ⟨_, rfl⟩
              rw [hwv] at bx kx
              rw [hY] at kx
              have HWV := hide hwv
              have HY := hide hY
              have hbv := hbu.trans (bx.mono hbu.size)
              have HPV := hide (HP.out.below hbv)
              have HWSV := hide (HWS.out.below hbv)
              have RWV := hide (RW.out.go hbv.size (fun g hg _ => away_below hbv g hg))
              have HBV := hide (HB.out.trans (hbv.mono HB.out.size))
              have y6 : wv.cell? ⟨Y, 6, none⟩ = some (.bool ed) := kx.cell 6
              have n3 : wv.cell? ⟨gw, j * 9 + 2, none⟩ = some (.int .i64 ec) := (hbv.cell (p := ⟨gw, _, none⟩) HGW.out).trans n2'
              have HGWV := hide (Nat.lt_of_lt_of_le HGW.out hbv.size)
              clear hbu hbv bx kx hwv hY AC n2'
              go_upto_region 21 with (fail)
              rw [HWV.out, HY.out]
              cases ed with
              | true =>
                obtain ⟨gs, rfl, hge, hnc, hcl, hfz, haw, hset, hch⟩ := HWSV.out.set_ HLJ.out (A := none) (c := 0) (n := 0) (r := []) rfl RowA.none_
                have hge' : W.heap.size ≤ gs := Nat.le_trans HDS.out hge
                have HP2 := hide (show P1 (wv.setCell ⟨gs, j, none⟩ (.slice none 0 0)) W.heap.size p q L' K' ls' l' from ⟨HPV.out.pq.keep (fun b hb => hch.block b (HPV.out.pq.lt b hb) (fun hm => by rw [List.mem_singleton] at hm; subst hm; exact haw.2 hb)), HPV.out.fb⟩)
                have HWS2 := hide hset
                have RW2 := hide (RWV.out.go (w' := wv.setCell ⟨gs, j, none⟩ (.slice none 0 0)) hch.size (fun g hg hgb => ⟨⟨Nat.lt_of_lt_of_le hg.1 hch.size, hg.2⟩, hch.block g hg.1 (fun hm => by rw [List.mem_singleton] at hm; omega)⟩))
                have HIV2 := hide (show Inv xs (ls' r) l' (updF R j []) from fun i' x' hx' => by
                  by_cases e : i' = j
                  · subst e
                    obtain ⟨_, y, hy, hyc, _⟩ := HIV.out i' x' hx'
                    rw [updF_at]
                    exact ⟨Nat.zero_le _, y, hy, hyc, fun _ m hm => absurd hm List.not_mem_nil⟩
                  · rw [updF_ne R j _ e]
                    exact HIV.out i' x' hx')
                have HB2 := hide (HBV.out.setCell (p := ⟨gs, j, none⟩) hge' (.slice none 0 0))
                obtain ⟨w9, hw9⟩ : ∃ z, wv.setCell ⟨gs, j, none⟩ (.slice none 0 0) = z := ⟨_, rfl⟩
                rw [hw9] at HP2 HWS2 RW2 HB2
                have HW9 := hide hw9
                obtain ⟨sv1, hsv1⟩ : ∃ z, Value.slice (V j).1 (R j).length (V j).2 = z := ⟨_, rfl⟩
                rw [hsv1] at hcl
                have hjc : (j : Int) < (cs : Int) := by have := HLJ.out; omega
                clear hge hge' haw hset hch hw9 hsv1
                go_upto_region 19 with (fail)
                rw [HW9.out]
                clear y6 n3 hcl hfz
                go_wp2_with fail
                go_roundw
                case rel => exact ⟨j + 1, updF R j [], _, HLJ.out, by go_num, HP2, HWS2, RW2, HIV2, HB2⟩
                case measure => have := HLJ.out; simp [RowKit.intOf] <;> omega
              | false =>
                have MY := hide (may_c HPV.out.pq.hp HLN.out HPV.out.pq.hq (by have := HL1.out.2; omega) r hr64 ec)
                go_upto_region 25 with (fail)
                go_wp2_with fail
                refine MY.out.mono ?_
                rintro e wm ⟨Am, cm, rfl, hom, hbm⟩
                have hml64 := mayL_len l' (ls' r) ec
                have hra := RowA.of (o := (Value.slice As i cs).ownBlock) hom rfl HPV.out.pq.lt (fun g hg => (HWSV.out.gaw g hg).1)
                have hws := HWSV.out.below hbm
                obtain ⟨gs, rfl, _, hnc, hcl, _⟩ := hws.set_ HLJ.out (A := none) (c := 0) (n := 0) (r := []) rfl RowA.none_
                have hjc : (j : Int) < (cs : Int) := by have := HLJ.out; omega
                have hwi := within_c (w := wm) (V j).1 Am (V j).2 cm (R j).length (mayL l' (ls' r) ec).length (R j) (mayL l' (ls' r) ec) (hws.row j HLJ.out).1 hra.1 rfl rfl (by have := HYL.out; omega) (by omega) (HYI.out trivial)
                have HPM := hide (HPV.out.below hbm)
                have HWSM := hide hws
                have HRA := hide hra
                have RWM := hide (RWV.out.go hbm.size (fun g hg _ => away_below hbm g hg))
                have HBM := hide (HBV.out.trans (hbm.mono HBV.out.size))
                have HML := hide hml64
                obtain ⟨va, hva⟩ : ∃ z, (V j).1 = z := ⟨_, rfl⟩
                obtain ⟨vc, hvc⟩ : ∃ z, (V j).2 = z := ⟨_, rfl⟩
                obtain ⟨vn, hvn⟩ : ∃ z, (R j).length = z := ⟨_, rfl⟩
                rw [hva, hvc, hvn] at hcl hwi
                obtain ⟨ml, hml⟩ : ∃ z, mayL l' (ls' r) ec = z := ⟨_, rfl⟩
                rw [hml] at HRA HML hwi
                rw [hml]
                have HMM := hide hml
                obtain ⟨mn, hmn⟩ : ∃ z, ml.length = z := ⟨_, rfl⟩
                rw [hmn] at HML hwi
                rw [hmn]
                have HMN := hide hmn
                have WI := hide hwi
                clear hom hbm hml64 hra hws hwi hva hvc hvn hml hmn MY y6 n3
                go_wp2_with fail
                refine WI.out.mono ?_
                rintro e wn ⟨rfl, hbn⟩
                have HWSN := hide (HWSM.out.below hbn)
                have HRAN := hide (HRA.out.go hbn.size (away_below hbn))
                obtain ⟨gs', hgs', hge, _, hcl2, hfz, haw, hset, hch⟩ := HWSN.out.set_ HLJ.out (A := Am) (c := cm) (n := mn) (r := ml) HMN.out HRAN.out
                cases hgs'
                have HPN := hide (HPM.out.below hbn)
                have hge' : W.heap.size ≤ gs := Nat.le_trans HDS.out hge
                have HP2 := hide (show P1 (wn.setCell ⟨gs, j, none⟩ (.slice Am mn cm)) W.heap.size p q L' K' ls' l' from ⟨HPN.out.pq.keep (fun b hb => hch.block b (HPN.out.pq.lt b hb) (fun hm => by rw [List.mem_singleton] at hm; subst hm; exact haw.2 hb)), HPN.out.fb⟩)
                have HWS2 := hide hset
                have rwn := RWM.out.go hbn.size (fun g hg _ => away_below hbn g hg)
                have RW2 := hide (rwn.go (w' := wn.setCell ⟨gs, j, none⟩ (.slice Am mn cm)) hch.size (fun g hg hgb => ⟨⟨Nat.lt_of_lt_of_le hg.1 hch.size, hg.2⟩, hch.block g hg.1 (fun hm => by rw [List.mem_singleton] at hm; omega)⟩))
                have HIV2 := hide (show Inv xs (ls' r) l' (updF R j ml) from fun i' x' hx' => by
                  by_cases e : i' = j
                  · subst e
                    have e2 := hx'.symm.trans HX.out
                    injection e2 with e2
                    subst e2
                    rw [updF_at]
                    refine ⟨by rw [HMN.out]; exact HML.out, _, HYM.out, HXC.out.symm, fun _ m hm => ?_⟩
                    rw [HXC.out, HMM.out]
                    exact hm
                  · rw [updF_ne R j _ e]
                    exact HIV.out i' x' hx')
                have HB2 := hide ((HBM.out.trans (hbn.mono HBM.out.size)).setCell (p := ⟨gs, j, none⟩) hge' (.slice Am mn cm))
                obtain ⟨w9, hw9⟩ : ∃ z, wn.setCell ⟨gs, j, none⟩ (.slice Am mn cm) = z := ⟨_, rfl⟩
                rw [hw9] at HP2 HWS2 RW2 HB2
                have HW9 := hide hw9
                clear hge hge' haw hset hch hw9 hbn WI hcl rwn
                obtain ⟨sv1, hsv1⟩ : ∃ z, Value.slice (V j).1 (R j).length (V j).2 = z := ⟨_, rfl⟩
                rw [hsv1] at hcl2
                clear hsv1
                go_upto_region 19 with (fail)
                rw [HW9.out]
                clear hcl2 hfz
                go_wp2_with fail
                go_roundw
                case rel => exact ⟨j + 1, updF R j ml, _, HLJ.out, by go_num, HP2, HWS2, RW2, HIV2, HB2⟩
                case measure => have := HLJ.out; simp [RowKit.intOf] <;> omega
end Go.Proofs.Ytonmojinijpneaa.PostedGrowsW
