/- The walk of the statement PostedPlays: of any acts; without conditions. -/
import Derived.Test.YtonmojinijpneaaRows
import Derived.Test.YtonmojinijpneaaPoDx
namespace Go.Proofs.Ytonmojinijpneaa.PostedPlaysW
open Go Go.Joins Go.ChangeShapes Go.WideShapes Go.RowKit Go.Deep Go.Lib Go.Proofs.Ytonmojinijpneaa Go.Proofs.Ytonmojinijpneaa.Po Go.Proofs.Ytonmojinijpneaa.Qu
set_option linter.unusedVariables false
set_option linter.unusedSimpArgs false
theorem rec_size : (Try.prog.info? 35).map (·.size) = some 9 := by kernel_rfl
set_option maxRecDepth 100000 in
set_option maxHeartbeats 16000000 in
theorem walk {H : Type} {enc : TypeId × Value → H} {base : Nat} (W : World) (v0 : Value) (d0 : DataW H) (p0 : List MemPlace) (o0 : Value.okWide Try.prog W .any base 22 v0) (r0 : DataW.Trod enc Try.prog W 0 (fun _ => true) true 22 v0 d0 p0) :
    Calls Try.prog 3 #[v0] W fun e w' => e = .returned (.bool true) ∧ Below W.heap.size W w' := by
  obtain ⟨A, n, cap, F, rfl, hnm, hF⟩ := Po.acts_of o0 r0
  have HF := hide hF
  have GC := hide (Po.Great_c cap HF.out)
  have BC := hide (begin_c W)
  have B0 := hide (Below.refl W.heap.size W)
  clear o0 r0 hF hnm
  go_enter Try.func3, Try.ntmps3
  go_wp2_with fail
  refine GC.out.mono ?_
  rintro e wB2 ⟨rfl, hw2⟩
  obtain rfl : W = wB2 := hw2
  obtain ⟨b, hb⟩ : ∃ z, Po.grt n F = z := ⟨_, rfl⟩
  rw [hb]
  cases b with
  | true =>
    clear hb
    go_wp2_with fail
    go_ret
    exact ⟨rfl, B0.out⟩
  | false =>
    have HNL := hide (grt_small hb)
    clear hb GC
    go_wp2_with fail
    refine BC.out.mono ?_
    rintro e wB ⟨Y, q0, p0, rq0, d0, rfl, hp, hY⟩
    have HP0 := hide hp
    have HY := hide hY
    have y0 : wB.cell? ⟨Y, 0, none⟩ = some (.pointer (some ⟨q0, 0, none⟩)) := hp.blk.cell 0
    have y1 : wB.cell? ⟨Y, 1, none⟩ = some (.pointer (some ⟨p0, 0, none⟩)) := hp.blk.cell 1
    clear hp hY BC
    go_wp2_with fail
    clear y0 y1
    go_loopw [4, 7, 9] (fun v4 _ _ wr => ∃ (i : Nat) (rl : List Rc) (l : List Msg) (q p rq d : Nat), i ≤ n ∧ v4 = .int .i64 i ∧ Hid (Fine rl l ∧ rl.length ≤ i ∧ l.length ≤ i) ∧ Hid (PLP ⟨W, none, none⟩ Y q p rq d rl l wr)) (fun v4 _ _ _ => n - (RowKit.intOf v4).toNat)
    case atStart => exact ⟨0, [], [], q0, p0, rq0, d0, Nat.zero_le _, rfl, hide ⟨fine_nil, Nat.le_refl _, Nat.le_refl _⟩, HP0⟩
    case round =>
      obtain ⟨i, rl, l, q, p, rq, d, hi, rfl, HFL, HP⟩ := hrel
      rename World => wr
      clear HP0
      have hn1 := HNL.out
      by_cases hlt : i < n
      rotate_left
      · have hltI : ¬ (i : Int) < (n : Int) := by omega
        clear hlt
        go_wp2_with fail
        go_ret
        exact ⟨rfl, HP.out.be⟩
      have hltI : (i : Int) < (n : Int) := by omega
      obtain ⟨a, rfl, k0, k1, hc⟩ := (HF.out.below HP.out.be).load hlt
      obtain ⟨x, hx⟩ : ∃ z, F i = z := ⟨_, rfl⟩
      rw [hx] at k0 k1 hc
      obtain ⟨kd, ⟨xk, xf, xt, xc, xg, xv, xz, xb⟩, ⟨yk, yr, yc, yp, yt, yq, yd, yf, ys⟩⟩ := x
      simp only at k0 k1
      have HC := hide (show ∀ j v, (#[.int .u8 kd, .string xk, .int .i64 xf, .int .i64 xt, .int .i64 xc, .int .i64 xg, .int .i64 xv, .int .i64 xz, .bool xb, .string yk, .int .i64 yr, .int .i64 yc, .int .i64 yp, .int .i64 yt, .int .i64 yq, .bool yd, .int .i64 yf, .int .i64 ys] : Array Value).toList[j]? = some v → wr.cell? ((a.add (i * 18)).add j) = some v from hc)
      have HC9 := hide (show ∀ j v, (#[.string yk, .int .i64 yr, .int .i64 yc, .int .i64 yp, .int .i64 yt, .int .i64 yq, .bool yd, .int .i64 yf, .int .i64 ys] : Array Value).toList[j]? = some v → wr.cell? (((a.add (i * 18)).add 9).add j) = some v from fun j v hv => by rw [Go.Deep.add_add]; exact hc (9 + j) v (by rw [show (9 + j) = j + 9 by omega]; exact hv))
      have HAB : Hid (a.block < wr.heap.size) := hide (by
        obtain ⟨_, _, a', ha, hlt', _⟩ := (HF.out.below HP.out.be) i hlt
        cases ha
        exact hlt')
      have HLT := hide hlt
      have HFX := hide hx
      clear hlt hx hc
      have bz := (Below.refl wr.heap.size wr).alloc (Nat.le_refl _) (.cells #[.string ⟨#[]⟩, .int .i64 0, .int .i64 0, .int .i64 0, .int .i64 0, .int .i64 0, .bool false, .int .i64 0, .int .i64 0] 35)
      have kz := Blk.new wr 35 #[.string ⟨#[]⟩, .int .i64 0, .int .i64 0, .int .i64 0, .int .i64 0, .int .i64 0, .bool false, .int .i64 0, .int .i64 0]
      obtain ⟨w3, hw3⟩ : ∃ z, wr.alloc (.cells #[.string ⟨#[]⟩, .int .i64 0, .int .i64 0, .int .i64 0, .int .i64 0, .int .i64 0, .bool false, .int .i64 0, .int .i64 0] 35) = z := ⟨_, rfl⟩
      obtain ⟨RX, hR⟩ : ∃ z, wr.heap.size = z := ⟨_, rfl⟩
      rw [hw3] at bz kz
      rw [hR] at kz
      have z0 : w3.cell? ⟨RX, 0, none⟩ = some (.string ⟨#[]⟩) := kz.cell 0
      have f0 := kz.frozen 0
      have z1 : w3.cell? ⟨RX, 1, none⟩ = some (.int .i64 0) := kz.cell 1
      have f1 := kz.frozen 1
      have z2 : w3.cell? ⟨RX, 2, none⟩ = some (.int .i64 0) := kz.cell 2
      have f2 := kz.frozen 2
      have z3 : w3.cell? ⟨RX, 3, none⟩ = some (.int .i64 0) := kz.cell 3
      have f3 := kz.frozen 3
      have z4 : w3.cell? ⟨RX, 4, none⟩ = some (.int .i64 0) := kz.cell 4
      have f4 := kz.frozen 4
      have z5 : w3.cell? ⟨RX, 5, none⟩ = some (.int .i64 0) := kz.cell 5
      have f5 := kz.frozen 5
      have z6 : w3.cell? ⟨RX, 6, none⟩ = some (.bool false) := kz.cell 6
      have f6 := kz.frozen 6
      have z7 : w3.cell? ⟨RX, 7, none⟩ = some (.int .i64 0) := kz.cell 7
      have f7 := kz.frozen 7
      have z8 : w3.cell? ⟨RX, 8, none⟩ = some (.int .i64 0) := kz.cell 8
      have f8 := kz.frozen 8
      have k9 := put9 kz (.string yk) (.int .i64 yr) (.int .i64 yc) (.int .i64 yp) (.int .i64 yt) (.int .i64 yq) (.bool yd) (.int .i64 yf) (.int .i64 ys)
      have b9 := bel9 bz (show wr.heap.size ≤ RX by omega) (.string yk) (.int .i64 yr) (.int .i64 yc) (.int .i64 yp) (.int .i64 yt) (.int .i64 yq) (.bool yd) (.int .i64 yf) (.int .i64 ys)
      obtain ⟨w9, hw9⟩ : ∃ z, ((((((((w3.setCell ⟨RX, 0, none⟩ (.string yk)).setCell ⟨RX, 1, none⟩ (.int .i64 yr)).setCell ⟨RX, 2, none⟩ (.int .i64 yc)).setCell ⟨RX, 3, none⟩ (.int .i64 yp)).setCell ⟨RX, 4, none⟩ (.int .i64 yt)).setCell ⟨RX, 5, none⟩ (.int .i64 yq)).setCell ⟨RX, 6, none⟩ (.bool yd)).setCell ⟨RX, 7, none⟩ (.int .i64 yf)).setCell ⟨RX, 8, none⟩ (.int .i64 ys) = z := ⟨_, rfl⟩
      rw [hw9] at k9 b9
      have KR := hide k9
      have HB9 := hide b9
      have HP9 := hide (HP.out.hold b9 (by omega) k9.lt)
      have HC2 := hide (show ∀ j v, (#[.int .u8 kd, .string xk, .int .i64 xf, .int .i64 xt, .int .i64 xc, .int .i64 xg, .int .i64 xv, .int .i64 xz, .bool xb, .string yk, .int .i64 yr, .int .i64 yc, .int .i64 yp, .int .i64 yt, .int .i64 yq, .bool yd, .int .i64 yf, .int .i64 ys] : Array Value).toList[j]? = some v → w9.cell? ((a.add (i * 18)).add j) = some v from fun j v hv => (b9.cell (by rw [Po.block_add, Po.block_add]; exact HAB.out)).trans (HC.out j v hv))
      have HY9 := hide (show WR.far ⟨W, some RX, w9.heap[RX]?⟩ Y from ⟨HY.out, fun e => by have e2 : RX = Y := Option.some.inj e; have := HP.out.blk.lt; omega⟩)
      have DC := hide (does_c (n := i) left_said HFL.out.1 HFL.out.2 (by omega) kd k0 xk xf xt xc xg xv xz xb yk yr yc yp yt yq yd yf ys HY9.out (HP9.out.box _))
      clear k9 b9 bz kz
      go_upto_region 10 with (refine wpList_load_cells rfl 35 _ rfl ((a.add (i * 18)).add 9) rfl _ _ HC9.out Try.underlying35 rfl rec_size ?_)
      first | rw [hw9] | skip
      clear hw3 hR hw9 z0 f0 z1 f1 z2 f2 z3 f3 z4 f4 z5 f5 z6 f6 z7 f7 z8 f8 HC9 HC
      go_wp2_with (refine wpList_load_cells rfl 37 _ rfl (a.add (i * 18)) rfl _ _ HC2.out Try.underlying37 rfl act_size ?_)
      refine DC.out.mono ?_
      rintro e w5 ⟨rfl, rl', l', hfl, q', p', rq', d', hbx⟩
      have HP1 := hide hbx.play
      have HFL1 := hide hfl
      have KR5 := hide (show Blk w5 RX 35 #[.string yk, .int .i64 yr, .int .i64 yc, .int .i64 yp, .int .i64 yt, .int .i64 yq, .bool yd, .int .i64 yf, .int .i64 ys] from ((hbx.play.kept.rk RX rfl).1).trans KR.out)
      clear hfl hbx DC HC2
      have HLR := hide (show rl'.length ≤ 1000 ∧ l'.length ≤ 1000 by have := HFL1.out.2; omega)
      obtain ⟨⟨nk, nr, nc, np, nt, nq, nd, nf, ns⟩, hnx⟩ : ∃ z, (atG rl' yr yc).getD r0 = z := ⟨_, rfl⟩
      obtain ⟨bo, hbo⟩ : ∃ z, (atG rl' yr yc).isSome = z := ⟨_, rfl⟩
      have hat : atV (atG rl' yr yc) = .tuple #[.agg #[.string nk, .int .i64 nr, .int .i64 nc, .int .i64 np, .int .i64 nt, .int .i64 nq, .bool nd, .int .i64 nf, .int .i64 ns], .bool bo] := by unfold atV; rw [hnx, hbo]; rfl
      have HAT := hide (fun wx (hb : Below w5.heap.size w5 wx) => show Calls Try.prog 13 #[.pointer (some ⟨p', 0, none⟩), .int .i64 yr, .int .i64 yc] wx fun e w' => e = .returned (.tuple #[.agg #[.string nk, .int .i64 nr, .int .i64 nc, .int .i64 np, .int .i64 nt, .int .i64 nq, .bool nd, .int .i64 nf, .int .i64 ns], .bool bo]) ∧ Below wx.heap.size wx w' from by
        have h := (HP1.out.below hb).at_ HFL1.out.1 HLR.out.1 yr yc
        rw [hat] at h
        exact h)
      have HATV := hide hat
      clear hnx hbo hat
      go_upto_region 12 with (fail)
      let R : Nat → Value → World → Prop := fun sl u w1 => match sl with
        | 6 => ∃ Z, u = .pointer (some ⟨Z, 0, none⟩)
        | 7 => u = .bool bo
        | 43 => u = .tuple #[.agg #[.string nk, .int .i64 nr, .int .i64 nc, .int .i64 np, .int .i64 nt, .int .i64 nq, .bool nd, .int .i64 nf, .int .i64 ns], .bool bo]
        | 44 => u = .pointer (some ⟨Y, 0, none⟩)
        | 45 => u = .pointer (some ⟨Y, 0, none⟩)
        | 46 => u = .pointer (some ⟨Y, 1, none⟩)
        | 47 => u = .pointer (some ⟨p', 0, none⟩)
        | 48 => u = .pointer (some ⟨RX, 1, none⟩)
        | 49 => u = .int .i64 yr
        | 50 => u = .pointer (some ⟨RX, 2, none⟩)
        | 51 => u = .int .i64 yc
        | 52 => u = .tuple #[.agg #[.string nk, .int .i64 nr, .int .i64 nc, .int .i64 np, .int .i64 nt, .int .i64 nq, .bool nd, .int .i64 nf, .int .i64 ns], .bool bo]
        | 53 => u = .agg #[.string nk, .int .i64 nr, .int .i64 nc, .int .i64 np, .int .i64 nt, .int .i64 nq, .bool nd, .int .i64 nf, .int .i64 ns]
        | 54 => u = .bool bo
        | _ => True
      refine wp_region_relGW [] R (fun _ _ => True) (fun V w => AJ w5 #[.string ⟨#[]⟩, .int .i64 0, .int .i64 0, .int .i64 0, .int .i64 0, .int .i64 0, .bool false, .int .i64 0, .int .i64 0] #[.string nk, .int .i64 nr, .int .i64 nc, .int .i64 np, .int .i64 nt, .int .i64 nq, .bool nd, .int .i64 nf, .int .i64 ns] V w) (by kernel_rfl) (by kernel_rfl) (by kernel_rfl) (by kernel_rfl) ?mono (fun _ => trivial) (AJ.start _ _) ?gs ?step ?fin
      case mono =>
        intro sl u wx wy h hk
        match sl with
        | 6 =>
          exact h
        | 0 | 1 | 2 | 3 | 4 | 5 | 7 | 8 | 9 | 10 | 11 | 12 | 13 | 14 | 15 | 16 | 17 | 18 | 19 | 20 | 21 | 22 | 23 | 24 | 25 | 26 | 27 | 28 | 29 | 30 | 31 | 32 | 33 | 34 | 35 | 36 | 37 | 38 | 39 | 40 | 41 | 42 | 43 | 44 | 45 | 46 | 47 | 48 | 49 | 50 | 51 | 52 | 53 | 54 | _ + 55 => exact h
      case gs =>
        intro p hp u w1 h
        cases hp
      case step =>
        intro j o ho
        match j, ho with
        | 0, ho =>
          cases ho
          intro V aa wx hV hdep hval hj hsm hr
          have e3 : aa.tmps.getD 3 undef = .pointer (some ⟨Y, 0, none⟩) := hsm 3 (by decide)
          rw [Array.getD_eq_getD_getElem?] at e3
          unfold Oper.wp
          simp only [execOp, Act.eval, Array.getD_eq_getD_getElem?, e3]
          go_simp
          first | exact ⟨_, rfl, rfl, hj.plain (Below.refl _ _) (by decide) (by decide)⟩ | exact ⟨_, rfl, hj.plain (Below.refl _ _) (by decide) (by decide)⟩
        | 1, ho =>
          cases ho
          intro V aa wx hV hdep hval hj hsm hr
          have e44 : aa.tmps.getD 44 undef = .pointer (some ⟨Y, 0, none⟩) := hr 44 (by decide) (by apply Array.mem_toList_iff.1; repeat (first | exact List.Mem.head _ | apply List.Mem.tail))
          rw [Array.getD_eq_getD_getElem?] at e44
          unfold Oper.wp
          simp only [execOp, Act.eval, Array.getD_eq_getD_getElem?, e44]
          go_simp
          first | exact ⟨_, rfl, rfl, hj.plain (Below.refl _ _) (by decide) (by decide)⟩ | exact ⟨_, rfl, hj.plain (Below.refl _ _) (by decide) (by decide)⟩
        | 2, ho =>
          cases ho
          intro V aa wx hV hdep hval hj hsm hr
          have e45 : aa.tmps.getD 45 undef = .pointer (some ⟨Y, 0, none⟩) := hr 45 (by decide) (by apply Array.mem_toList_iff.1; repeat (first | exact List.Mem.head _ | apply List.Mem.tail))
          rw [Array.getD_eq_getD_getElem?] at e45
          unfold Oper.wp
          simp only [execOp, Act.eval, Array.getD_eq_getD_getElem?, e45]
          go_simp
          first | exact ⟨_, rfl, rfl, hj.plain (Below.refl _ _) (by decide) (by decide)⟩ | exact ⟨_, rfl, hj.plain (Below.refl _ _) (by decide) (by decide)⟩
        | 3, ho =>
          cases ho
          intro V aa wx hV hdep hval hj hsm hr
          have e46 : aa.tmps.getD 46 undef = .pointer (some ⟨Y, 1, none⟩) := hr 46 (by decide) (by apply Array.mem_toList_iff.1; repeat (first | exact List.Mem.head _ | apply List.Mem.tail))
          have hk := (HP1.out.below hj.be).blk
          have x1 : wx.cell? ⟨Y, 1, none⟩ = some (.pointer (some ⟨p', 0, none⟩)) := hk.cell 1
          rw [Array.getD_eq_getD_getElem?] at e46
          unfold Oper.wp
          simp only [execOp, Act.eval, Array.getD_eq_getD_getElem?, e46]
          go_simp
          first | exact ⟨_, rfl, rfl, hj.plain (Below.refl _ _) (by decide) (by decide)⟩ | exact ⟨_, rfl, hj.plain (Below.refl _ _) (by decide) (by decide)⟩
        | 4, ho =>
          cases ho
          intro V aa wx hV hdep hval hj hsm hr
          have e5 : aa.tmps.getD 5 undef = .pointer (some ⟨RX, 0, none⟩) := hsm 5 (by decide)
          rw [Array.getD_eq_getD_getElem?] at e5
          unfold Oper.wp
          simp only [execOp, Act.eval, Array.getD_eq_getD_getElem?, e5]
          go_simp
          first | exact ⟨_, rfl, rfl, hj.plain (Below.refl _ _) (by decide) (by decide)⟩ | exact ⟨_, rfl, hj.plain (Below.refl _ _) (by decide) (by decide)⟩
        | 5, ho =>
          cases ho
          intro V aa wx hV hdep hval hj hsm hr
          have e48 : aa.tmps.getD 48 undef = .pointer (some ⟨RX, 1, none⟩) := hr 48 (by decide) (by apply Array.mem_toList_iff.1; repeat (first | exact List.Mem.head _ | apply List.Mem.tail))
          have hk := KR5.out.below hj.be KR5.out.lt
          have x1 : wx.cell? ⟨RX, 1, none⟩ = some (.int .i64 yr) := hk.cell 1
          rw [Array.getD_eq_getD_getElem?] at e48
          unfold Oper.wp
          simp only [execOp, Act.eval, Array.getD_eq_getD_getElem?, e48]
          go_simp
          first | exact ⟨_, rfl, rfl, hj.plain (Below.refl _ _) (by decide) (by decide)⟩ | exact ⟨_, rfl, hj.plain (Below.refl _ _) (by decide) (by decide)⟩
        | 6, ho =>
          cases ho
          intro V aa wx hV hdep hval hj hsm hr
          have e5 : aa.tmps.getD 5 undef = .pointer (some ⟨RX, 0, none⟩) := hsm 5 (by decide)
          rw [Array.getD_eq_getD_getElem?] at e5
          unfold Oper.wp
          simp only [execOp, Act.eval, Array.getD_eq_getD_getElem?, e5]
          go_simp
          first | exact ⟨_, rfl, rfl, hj.plain (Below.refl _ _) (by decide) (by decide)⟩ | exact ⟨_, rfl, hj.plain (Below.refl _ _) (by decide) (by decide)⟩
        | 7, ho =>
          cases ho
          intro V aa wx hV hdep hval hj hsm hr
          have e50 : aa.tmps.getD 50 undef = .pointer (some ⟨RX, 2, none⟩) := hr 50 (by decide) (by apply Array.mem_toList_iff.1; repeat (first | exact List.Mem.head _ | apply List.Mem.tail))
          have hk := KR5.out.below hj.be KR5.out.lt
          have x2 : wx.cell? ⟨RX, 2, none⟩ = some (.int .i64 yc) := hk.cell 2
          rw [Array.getD_eq_getD_getElem?] at e50
          unfold Oper.wp
          simp only [execOp, Act.eval, Array.getD_eq_getD_getElem?, e50]
          go_simp
          first | exact ⟨_, rfl, rfl, hj.plain (Below.refl _ _) (by decide) (by decide)⟩ | exact ⟨_, rfl, hj.plain (Below.refl _ _) (by decide) (by decide)⟩
        | 8, ho =>
          cases ho
          intro V aa wx hV hdep hval hj hsm hr
          have e47 : aa.tmps.getD 47 undef = .pointer (some ⟨p', 0, none⟩) := hr 47 (by decide) (by apply Array.mem_toList_iff.1; repeat (first | exact List.Mem.head _ | apply List.Mem.tail))
          have e49 : aa.tmps.getD 49 undef = .int .i64 yr := hr 49 (by decide) (by apply Array.mem_toList_iff.1; repeat (first | exact List.Mem.head _ | apply List.Mem.tail))
          have e51 : aa.tmps.getD 51 undef = .int .i64 yc := hr 51 (by decide) (by apply Array.mem_toList_iff.1; repeat (first | exact List.Mem.head _ | apply List.Mem.tail))
          rw [Array.getD_eq_getD_getElem?] at e47
          rw [Array.getD_eq_getD_getElem?] at e49
          rw [Array.getD_eq_getD_getElem?] at e51
          unfold Oper.wp
          simp only [execOp, Act.eval, Array.getD_eq_getD_getElem?, e47, e49, e51]
          go_simp
          refine (HAT.out wx hj.be).mono ?_
          rintro e w' ⟨rfl, hb⟩
          exact ⟨_, rfl, rfl, hj.plain hb (by decide) (by decide)⟩
        | 9, ho =>
          cases ho
          intro V aa wx hV hdep hval hj hsm hr
          have e52 : aa.tmps.getD 52 undef = .tuple #[.agg #[.string nk, .int .i64 nr, .int .i64 nc, .int .i64 np, .int .i64 nt, .int .i64 nq, .bool nd, .int .i64 nf, .int .i64 ns], .bool bo] := hr 52 (by decide) (by apply Array.mem_toList_iff.1; repeat (first | exact List.Mem.head _ | apply List.Mem.tail))
          rw [Array.getD_eq_getD_getElem?] at e52
          unfold Oper.wp
          simp only [execOp, Act.eval, Array.getD_eq_getD_getElem?, e52]
          go_simp
          first | exact ⟨_, rfl, rfl, hj.plain (Below.refl _ _) (by decide) (by decide)⟩ | exact ⟨_, rfl, hj.plain (Below.refl _ _) (by decide) (by decide)⟩
        | 10, ho =>
          cases ho
          intro V aa wx hV hdep hval hj hsm hr
          have e43 : aa.tmps.getD 43 undef = .tuple #[.agg #[.string nk, .int .i64 nr, .int .i64 nc, .int .i64 np, .int .i64 nt, .int .i64 nq, .bool nd, .int .i64 nf, .int .i64 ns], .bool bo] := hr 43 (by decide) (by apply Array.mem_toList_iff.1; repeat (first | exact List.Mem.head _ | apply List.Mem.tail))
          rw [Array.getD_eq_getD_getElem?] at e43
          unfold Oper.wp
          simp only [execOp, Act.eval, Array.getD_eq_getD_getElem?, e43]
          go_simp
          first | exact ⟨_, rfl, rfl, hj.plain (Below.refl _ _) (by decide) (by decide)⟩ | exact ⟨_, rfl, hj.plain (Below.refl _ _) (by decide) (by decide)⟩
        | 11, ho =>
          cases ho
          intro V aa wx hV hdep hval hj hsm hr
          have e43 : aa.tmps.getD 43 undef = .tuple #[.agg #[.string nk, .int .i64 nr, .int .i64 nc, .int .i64 np, .int .i64 nt, .int .i64 nq, .bool nd, .int .i64 nf, .int .i64 ns], .bool bo] := hr 43 (by decide) (by apply Array.mem_toList_iff.1; repeat (first | exact List.Mem.head _ | apply List.Mem.tail))
          rw [Array.getD_eq_getD_getElem?] at e43
          unfold Oper.wp
          simp only [execOp, Act.eval, Array.getD_eq_getD_getElem?, e43]
          go_simp
          first | exact ⟨_, rfl, rfl, hj.plain (Below.refl _ _) (by decide) (by decide)⟩ | exact ⟨_, rfl, hj.plain (Below.refl _ _) (by decide) (by decide)⟩
        | 12, ho =>
          cases ho
          intro V aa wx hV hdep hval hj hsm hr
          unfold Oper.wp
          simp only [execOp, Act.eval, Array.getD_eq_getD_getElem?]
          go_simp
          exact ⟨_, rfl, ⟨_, rfl⟩, hj.alloc hV⟩
        | 13, ho =>
          cases ho
          intro V aa wx hV hdep hval hj hsm hr
          have r6 := hr 6 (by decide) (by apply Array.mem_toList_iff.1; repeat (first | exact List.Mem.head _ | apply List.Mem.tail))
          have e53 : aa.tmps.getD 53 undef = .agg #[.string nk, .int .i64 nr, .int .i64 nc, .int .i64 np, .int .i64 nt, .int .i64 nq, .bool nd, .int .i64 nf, .int .i64 ns] := hr 53 (by decide) (by apply Array.mem_toList_iff.1; repeat (first | exact List.Mem.head _ | apply List.Mem.tail))
          obtain ⟨Z, e6⟩ := r6
          have e6 : aa.tmps.getD 6 undef = .pointer (some ⟨Z, 0, none⟩) := e6
          have h12 := hval 12 _ 6 rfl rfl (hdep ⟨12, Ground.data⟩ (by simp) (by decide))
          rw [show aa.eval (.tmp 6) = .pointer (some ⟨Z, 0, none⟩) from e6] at h12
          have hbk := (hj.blk h12 hV).2
          have z0 : wx.cell? ⟨Z, 0, none⟩ = some (.string ⟨#[]⟩) := hbk.cell 0
          have f0 := hbk.frozen 0
          have z1 : wx.cell? ⟨Z, 1, none⟩ = some (.int .i64 0) := hbk.cell 1
          have f1 := hbk.frozen 1
          have z2 : wx.cell? ⟨Z, 2, none⟩ = some (.int .i64 0) := hbk.cell 2
          have f2 := hbk.frozen 2
          have z3 : wx.cell? ⟨Z, 3, none⟩ = some (.int .i64 0) := hbk.cell 3
          have f3 := hbk.frozen 3
          have z4 : wx.cell? ⟨Z, 4, none⟩ = some (.int .i64 0) := hbk.cell 4
          have f4 := hbk.frozen 4
          have z5 : wx.cell? ⟨Z, 5, none⟩ = some (.int .i64 0) := hbk.cell 5
          have f5 := hbk.frozen 5
          have z6 : wx.cell? ⟨Z, 6, none⟩ = some (.bool false) := hbk.cell 6
          have f6 := hbk.frozen 6
          have z7 : wx.cell? ⟨Z, 7, none⟩ = some (.int .i64 0) := hbk.cell 7
          have f7 := hbk.frozen 7
          have z8 : wx.cell? ⟨Z, 8, none⟩ = some (.int .i64 0) := hbk.cell 8
          have f8 := hbk.frozen 8
          rw [Array.getD_eq_getD_getElem?] at e53
          rw [Array.getD_eq_getD_getElem?] at e6
          unfold Oper.wp
          simp only [execOp, Act.eval, Array.getD_eq_getD_getElem?, e53, e6]
          go_simp
          exact hj.store h12 hV
        | 14, ho =>
          cases ho
          intro V aa wx hV hdep hval hj hsm hr
          have e54 : aa.tmps.getD 54 undef = .bool bo := hr 54 (by decide) (by apply Array.mem_toList_iff.1; repeat (first | exact List.Mem.head _ | apply List.Mem.tail))
          rw [Array.getD_eq_getD_getElem?] at e54
          unfold Oper.wp
          simp only [execOp, Act.eval, Array.getD_eq_getD_getElem?, e54]
          go_simp
          first | exact ⟨_, rfl, rfl, hj.plain (Below.refl _ _) (by decide) (by decide)⟩ | exact ⟨_, rfl, hj.plain (Below.refl _ _) (by decide) (by decide)⟩
        | _ + 15, ho => cases ho
      case fin =>
        intro ff V w6 hV hj hr
        have e7 : ff 7 = .bool bo := hr 7 (by decide)
        have h12 : V 12 = some (ff 6) := hV 12 _ rfl
        have h13 : V 13 = some undef := hV 13 _ rfl
        obtain ⟨Z6, e6, hz6, kz6⟩ := hj.bx _ h12
        rw [if_pos (by rw [h13]; rfl)] at kz6
        have K6 := hide kz6
        have HB6 := hide hj.be
        have HP6 := hide (HP1.out.below (Below.mono hj.be (Nat.le_refl _)))
        have KR6 := hide (KR5.out.below hj.be KR5.out.lt)
        clear hV hr hj h12 h13 kz6 hz6
        simp only [putAll, slotsOf, List.filterMap_cons, List.filterMap_nil, List.foldl_cons, List.foldl_nil, Act.put, e6, e7]
        simp only [List.setIfInBounds_toArray, List.set_cons_succ, List.set_cons_zero]
        have HATD := hide (fun wx (hb : Below w6.heap.size w6 wx) => show Calls Try.prog 14 #[.pointer (some ⟨d', 0, none⟩), .int .i64 yr, .int .i64 yc] wx fun e w' => e = .returned (.tuple #[.agg #[.string nk, .int .i64 nr, .int .i64 nc, .int .i64 np, .int .i64 nt, .int .i64 nq, .bool nd, .int .i64 nf, .int .i64 ns], .bool bo]) ∧ Below wx.heap.size wx w' from by
          have h := (HP6.out.below hb).atD HLR.out.1 yr yc
          rw [HATV.out] at h
          exact h)
        go_upto_region 13 with (fail)
        let R : Nat → Value → World → Prop := fun sl u w1 => match sl with
          | 8 => ∃ Z, u = .pointer (some ⟨Z, 0, none⟩)
          | 9 => u = .bool bo
          | 55 => u = .tuple #[.agg #[.string nk, .int .i64 nr, .int .i64 nc, .int .i64 np, .int .i64 nt, .int .i64 nq, .bool nd, .int .i64 nf, .int .i64 ns], .bool bo]
          | 56 => u = .pointer (some ⟨Y, 0, none⟩)
          | 57 => u = .pointer (some ⟨Y, 0, none⟩)
          | 58 => u = .pointer (some ⟨Y, 3, none⟩)
          | 59 => u = .pointer (some ⟨d', 0, none⟩)
          | 60 => u = .pointer (some ⟨RX, 1, none⟩)
          | 61 => u = .int .i64 yr
          | 62 => u = .pointer (some ⟨RX, 2, none⟩)
          | 63 => u = .int .i64 yc
          | 64 => u = .tuple #[.agg #[.string nk, .int .i64 nr, .int .i64 nc, .int .i64 np, .int .i64 nt, .int .i64 nq, .bool nd, .int .i64 nf, .int .i64 ns], .bool bo]
          | 65 => u = .agg #[.string nk, .int .i64 nr, .int .i64 nc, .int .i64 np, .int .i64 nt, .int .i64 nq, .bool nd, .int .i64 nf, .int .i64 ns]
          | 66 => u = .bool bo
          | _ => True
        refine wp_region_relGW [] R (fun _ _ => True) (fun V w => AJ w6 #[.string ⟨#[]⟩, .int .i64 0, .int .i64 0, .int .i64 0, .int .i64 0, .int .i64 0, .bool false, .int .i64 0, .int .i64 0] #[.string nk, .int .i64 nr, .int .i64 nc, .int .i64 np, .int .i64 nt, .int .i64 nq, .bool nd, .int .i64 nf, .int .i64 ns] V w) (by kernel_rfl) (by kernel_rfl) (by kernel_rfl) (by kernel_rfl) ?mono (fun _ => trivial) (AJ.start _ _) ?gs ?step ?fin
        case mono =>
          intro sl u wx wy h hk
          match sl with
          | 8 =>
            exact h
          | 0 | 1 | 2 | 3 | 4 | 5 | 6 | 7 | 9 | 10 | 11 | 12 | 13 | 14 | 15 | 16 | 17 | 18 | 19 | 20 | 21 | 22 | 23 | 24 | 25 | 26 | 27 | 28 | 29 | 30 | 31 | 32 | 33 | 34 | 35 | 36 | 37 | 38 | 39 | 40 | 41 | 42 | 43 | 44 | 45 | 46 | 47 | 48 | 49 | 50 | 51 | 52 | 53 | 54 | 55 | 56 | 57 | 58 | 59 | 60 | 61 | 62 | 63 | 64 | 65 | 66 | _ + 67 => exact h
        case gs =>
          intro p hp u w1 h
          cases hp
        case step =>
          intro j o ho
          match j, ho with
          | 0, ho =>
            cases ho
            intro V aa wx hV hdep hval hj hsm hr
            have e3 : aa.tmps.getD 3 undef = .pointer (some ⟨Y, 0, none⟩) := hsm 3 (by decide)
            rw [Array.getD_eq_getD_getElem?] at e3
            unfold Oper.wp
            simp only [execOp, Act.eval, Array.getD_eq_getD_getElem?, e3]
            go_simp
            first | exact ⟨_, rfl, rfl, hj.plain (Below.refl _ _) (by decide) (by decide)⟩ | exact ⟨_, rfl, hj.plain (Below.refl _ _) (by decide) (by decide)⟩
          | 1, ho =>
            cases ho
            intro V aa wx hV hdep hval hj hsm hr
            have e56 : aa.tmps.getD 56 undef = .pointer (some ⟨Y, 0, none⟩) := hr 56 (by decide) (by apply Array.mem_toList_iff.1; repeat (first | exact List.Mem.head _ | apply List.Mem.tail))
            rw [Array.getD_eq_getD_getElem?] at e56
            unfold Oper.wp
            simp only [execOp, Act.eval, Array.getD_eq_getD_getElem?, e56]
            go_simp
            first | exact ⟨_, rfl, rfl, hj.plain (Below.refl _ _) (by decide) (by decide)⟩ | exact ⟨_, rfl, hj.plain (Below.refl _ _) (by decide) (by decide)⟩
          | 2, ho =>
            cases ho
            intro V aa wx hV hdep hval hj hsm hr
            have e57 : aa.tmps.getD 57 undef = .pointer (some ⟨Y, 0, none⟩) := hr 57 (by decide) (by apply Array.mem_toList_iff.1; repeat (first | exact List.Mem.head _ | apply List.Mem.tail))
            rw [Array.getD_eq_getD_getElem?] at e57
            unfold Oper.wp
            simp only [execOp, Act.eval, Array.getD_eq_getD_getElem?, e57]
            go_simp
            first | exact ⟨_, rfl, rfl, hj.plain (Below.refl _ _) (by decide) (by decide)⟩ | exact ⟨_, rfl, hj.plain (Below.refl _ _) (by decide) (by decide)⟩
          | 3, ho =>
            cases ho
            intro V aa wx hV hdep hval hj hsm hr
            have e58 : aa.tmps.getD 58 undef = .pointer (some ⟨Y, 3, none⟩) := hr 58 (by decide) (by apply Array.mem_toList_iff.1; repeat (first | exact List.Mem.head _ | apply List.Mem.tail))
            have hk := (HP6.out.below hj.be).blk
            have x3 : wx.cell? ⟨Y, 3, none⟩ = some (.pointer (some ⟨d', 0, none⟩)) := hk.cell 3
            rw [Array.getD_eq_getD_getElem?] at e58
            unfold Oper.wp
            simp only [execOp, Act.eval, Array.getD_eq_getD_getElem?, e58]
            go_simp
            first | exact ⟨_, rfl, rfl, hj.plain (Below.refl _ _) (by decide) (by decide)⟩ | exact ⟨_, rfl, hj.plain (Below.refl _ _) (by decide) (by decide)⟩
          | 4, ho =>
            cases ho
            intro V aa wx hV hdep hval hj hsm hr
            have e5 : aa.tmps.getD 5 undef = .pointer (some ⟨RX, 0, none⟩) := hsm 5 (by decide)
            rw [Array.getD_eq_getD_getElem?] at e5
            unfold Oper.wp
            simp only [execOp, Act.eval, Array.getD_eq_getD_getElem?, e5]
            go_simp
            first | exact ⟨_, rfl, rfl, hj.plain (Below.refl _ _) (by decide) (by decide)⟩ | exact ⟨_, rfl, hj.plain (Below.refl _ _) (by decide) (by decide)⟩
          | 5, ho =>
            cases ho
            intro V aa wx hV hdep hval hj hsm hr
            have e60 : aa.tmps.getD 60 undef = .pointer (some ⟨RX, 1, none⟩) := hr 60 (by decide) (by apply Array.mem_toList_iff.1; repeat (first | exact List.Mem.head _ | apply List.Mem.tail))
            have hk := KR6.out.below hj.be KR6.out.lt
            have x1 : wx.cell? ⟨RX, 1, none⟩ = some (.int .i64 yr) := hk.cell 1
            rw [Array.getD_eq_getD_getElem?] at e60
            unfold Oper.wp
            simp only [execOp, Act.eval, Array.getD_eq_getD_getElem?, e60]
            go_simp
            first | exact ⟨_, rfl, rfl, hj.plain (Below.refl _ _) (by decide) (by decide)⟩ | exact ⟨_, rfl, hj.plain (Below.refl _ _) (by decide) (by decide)⟩
          | 6, ho =>
            cases ho
            intro V aa wx hV hdep hval hj hsm hr
            have e5 : aa.tmps.getD 5 undef = .pointer (some ⟨RX, 0, none⟩) := hsm 5 (by decide)
            rw [Array.getD_eq_getD_getElem?] at e5
            unfold Oper.wp
            simp only [execOp, Act.eval, Array.getD_eq_getD_getElem?, e5]
            go_simp
            first | exact ⟨_, rfl, rfl, hj.plain (Below.refl _ _) (by decide) (by decide)⟩ | exact ⟨_, rfl, hj.plain (Below.refl _ _) (by decide) (by decide)⟩
          | 7, ho =>
            cases ho
            intro V aa wx hV hdep hval hj hsm hr
            have e62 : aa.tmps.getD 62 undef = .pointer (some ⟨RX, 2, none⟩) := hr 62 (by decide) (by apply Array.mem_toList_iff.1; repeat (first | exact List.Mem.head _ | apply List.Mem.tail))
            have hk := KR6.out.below hj.be KR6.out.lt
            have x2 : wx.cell? ⟨RX, 2, none⟩ = some (.int .i64 yc) := hk.cell 2
            rw [Array.getD_eq_getD_getElem?] at e62
            unfold Oper.wp
            simp only [execOp, Act.eval, Array.getD_eq_getD_getElem?, e62]
            go_simp
            first | exact ⟨_, rfl, rfl, hj.plain (Below.refl _ _) (by decide) (by decide)⟩ | exact ⟨_, rfl, hj.plain (Below.refl _ _) (by decide) (by decide)⟩
          | 8, ho =>
            cases ho
            intro V aa wx hV hdep hval hj hsm hr
            have e59 : aa.tmps.getD 59 undef = .pointer (some ⟨d', 0, none⟩) := hr 59 (by decide) (by apply Array.mem_toList_iff.1; repeat (first | exact List.Mem.head _ | apply List.Mem.tail))
            have e61 : aa.tmps.getD 61 undef = .int .i64 yr := hr 61 (by decide) (by apply Array.mem_toList_iff.1; repeat (first | exact List.Mem.head _ | apply List.Mem.tail))
            have e63 : aa.tmps.getD 63 undef = .int .i64 yc := hr 63 (by decide) (by apply Array.mem_toList_iff.1; repeat (first | exact List.Mem.head _ | apply List.Mem.tail))
            rw [Array.getD_eq_getD_getElem?] at e59
            rw [Array.getD_eq_getD_getElem?] at e61
            rw [Array.getD_eq_getD_getElem?] at e63
            unfold Oper.wp
            simp only [execOp, Act.eval, Array.getD_eq_getD_getElem?, e59, e61, e63]
            go_simp
            refine (HATD.out wx hj.be).mono ?_
            rintro e w' ⟨rfl, hb⟩
            exact ⟨_, rfl, rfl, hj.plain hb (by decide) (by decide)⟩
          | 9, ho =>
            cases ho
            intro V aa wx hV hdep hval hj hsm hr
            have e64 : aa.tmps.getD 64 undef = .tuple #[.agg #[.string nk, .int .i64 nr, .int .i64 nc, .int .i64 np, .int .i64 nt, .int .i64 nq, .bool nd, .int .i64 nf, .int .i64 ns], .bool bo] := hr 64 (by decide) (by apply Array.mem_toList_iff.1; repeat (first | exact List.Mem.head _ | apply List.Mem.tail))
            rw [Array.getD_eq_getD_getElem?] at e64
            unfold Oper.wp
            simp only [execOp, Act.eval, Array.getD_eq_getD_getElem?, e64]
            go_simp
            first | exact ⟨_, rfl, rfl, hj.plain (Below.refl _ _) (by decide) (by decide)⟩ | exact ⟨_, rfl, hj.plain (Below.refl _ _) (by decide) (by decide)⟩
          | 10, ho =>
            cases ho
            intro V aa wx hV hdep hval hj hsm hr
            have e55 : aa.tmps.getD 55 undef = .tuple #[.agg #[.string nk, .int .i64 nr, .int .i64 nc, .int .i64 np, .int .i64 nt, .int .i64 nq, .bool nd, .int .i64 nf, .int .i64 ns], .bool bo] := hr 55 (by decide) (by apply Array.mem_toList_iff.1; repeat (first | exact List.Mem.head _ | apply List.Mem.tail))
            rw [Array.getD_eq_getD_getElem?] at e55
            unfold Oper.wp
            simp only [execOp, Act.eval, Array.getD_eq_getD_getElem?, e55]
            go_simp
            first | exact ⟨_, rfl, rfl, hj.plain (Below.refl _ _) (by decide) (by decide)⟩ | exact ⟨_, rfl, hj.plain (Below.refl _ _) (by decide) (by decide)⟩
          | 11, ho =>
            cases ho
            intro V aa wx hV hdep hval hj hsm hr
            have e55 : aa.tmps.getD 55 undef = .tuple #[.agg #[.string nk, .int .i64 nr, .int .i64 nc, .int .i64 np, .int .i64 nt, .int .i64 nq, .bool nd, .int .i64 nf, .int .i64 ns], .bool bo] := hr 55 (by decide) (by apply Array.mem_toList_iff.1; repeat (first | exact List.Mem.head _ | apply List.Mem.tail))
            rw [Array.getD_eq_getD_getElem?] at e55
            unfold Oper.wp
            simp only [execOp, Act.eval, Array.getD_eq_getD_getElem?, e55]
            go_simp
            first | exact ⟨_, rfl, rfl, hj.plain (Below.refl _ _) (by decide) (by decide)⟩ | exact ⟨_, rfl, hj.plain (Below.refl _ _) (by decide) (by decide)⟩
          | 12, ho =>
            cases ho
            intro V aa wx hV hdep hval hj hsm hr
            unfold Oper.wp
            simp only [execOp, Act.eval, Array.getD_eq_getD_getElem?]
            go_simp
            exact ⟨_, rfl, ⟨_, rfl⟩, hj.alloc hV⟩
          | 13, ho =>
            cases ho
            intro V aa wx hV hdep hval hj hsm hr
            have r8 := hr 8 (by decide) (by apply Array.mem_toList_iff.1; repeat (first | exact List.Mem.head _ | apply List.Mem.tail))
            have e65 : aa.tmps.getD 65 undef = .agg #[.string nk, .int .i64 nr, .int .i64 nc, .int .i64 np, .int .i64 nt, .int .i64 nq, .bool nd, .int .i64 nf, .int .i64 ns] := hr 65 (by decide) (by apply Array.mem_toList_iff.1; repeat (first | exact List.Mem.head _ | apply List.Mem.tail))
            obtain ⟨Z, e8⟩ := r8
            have e8 : aa.tmps.getD 8 undef = .pointer (some ⟨Z, 0, none⟩) := e8
            have h12 := hval 12 _ 8 rfl rfl (hdep ⟨12, Ground.data⟩ (by simp) (by decide))
            rw [show aa.eval (.tmp 8) = .pointer (some ⟨Z, 0, none⟩) from e8] at h12
            have hbk := (hj.blk h12 hV).2
            have z0 : wx.cell? ⟨Z, 0, none⟩ = some (.string ⟨#[]⟩) := hbk.cell 0
            have f0 := hbk.frozen 0
            have z1 : wx.cell? ⟨Z, 1, none⟩ = some (.int .i64 0) := hbk.cell 1
            have f1 := hbk.frozen 1
            have z2 : wx.cell? ⟨Z, 2, none⟩ = some (.int .i64 0) := hbk.cell 2
            have f2 := hbk.frozen 2
            have z3 : wx.cell? ⟨Z, 3, none⟩ = some (.int .i64 0) := hbk.cell 3
            have f3 := hbk.frozen 3
            have z4 : wx.cell? ⟨Z, 4, none⟩ = some (.int .i64 0) := hbk.cell 4
            have f4 := hbk.frozen 4
            have z5 : wx.cell? ⟨Z, 5, none⟩ = some (.int .i64 0) := hbk.cell 5
            have f5 := hbk.frozen 5
            have z6 : wx.cell? ⟨Z, 6, none⟩ = some (.bool false) := hbk.cell 6
            have f6 := hbk.frozen 6
            have z7 : wx.cell? ⟨Z, 7, none⟩ = some (.int .i64 0) := hbk.cell 7
            have f7 := hbk.frozen 7
            have z8 : wx.cell? ⟨Z, 8, none⟩ = some (.int .i64 0) := hbk.cell 8
            have f8 := hbk.frozen 8
            rw [Array.getD_eq_getD_getElem?] at e65
            rw [Array.getD_eq_getD_getElem?] at e8
            unfold Oper.wp
            simp only [execOp, Act.eval, Array.getD_eq_getD_getElem?, e65, e8]
            go_simp
            exact hj.store h12 hV
          | 14, ho =>
            cases ho
            intro V aa wx hV hdep hval hj hsm hr
            have e66 : aa.tmps.getD 66 undef = .bool bo := hr 66 (by decide) (by apply Array.mem_toList_iff.1; repeat (first | exact List.Mem.head _ | apply List.Mem.tail))
            rw [Array.getD_eq_getD_getElem?] at e66
            unfold Oper.wp
            simp only [execOp, Act.eval, Array.getD_eq_getD_getElem?, e66]
            go_simp
            first | exact ⟨_, rfl, rfl, hj.plain (Below.refl _ _) (by decide) (by decide)⟩ | exact ⟨_, rfl, hj.plain (Below.refl _ _) (by decide) (by decide)⟩
          | _ + 15, ho => cases ho
        case fin =>
          intro gg V w7 hV hj hr
          have e9 : gg 9 = .bool bo := hr 9 (by decide)
          have h12 : V 12 = some (gg 8) := hV 12 _ rfl
          have h13 : V 13 = some undef := hV 13 _ rfl
          obtain ⟨Z8, e8, hz8, kz8⟩ := hj.bx _ h12
          rw [if_pos (by rw [h13]; rfl)] at kz8
          have K8 := hide kz8
          have K67 := hide (K6.out.below hj.be K6.out.lt)
          have HP7 := hide (HP6.out.below (Below.mono hj.be (Nat.le_refl _)))
          have KR7 := hide (KR6.out.below hj.be KR6.out.lt)
          clear hV hr hj h12 h13 kz8 hz8
          simp only [putAll, slotsOf, List.filterMap_cons, List.filterMap_nil, List.foldl_cons, List.foldl_nil, Act.put, e8, e9]
          simp only [List.setIfInBounds_toArray, List.set_cons_succ, List.set_cons_zero]
          obtain ⟨bf, hbf⟩ : ∃ z, fitsB ⟨yk, yr, yc, yp, yt, yq, yd, yf, ys⟩ ⟨xk, xf, xt, xc, xg, xv, xz, xb⟩ = z := ⟨_, rfl⟩
          have HFC := hide (fun w => fits_c yk yr yc yp yt yq yd yf ys xk xf xt xc xg xv xz xb w)
          have HFB := hide (fun w => fits_b yk yr yc yp yt yq yd yf ys xk xf xt xc xg xv xz xb w)
          rw [hbf] at HFC HFB
          have hwl := waitG_len rl' yr
          obtain ⟨wt, hwt⟩ : ∃ z, waitG rl' yr = z := ⟨_, rfl⟩
          rw [hwt] at hwl
          obtain ⟨nw, hnw⟩ : ∃ z, wt.length = z := ⟨_, rfl⟩
          rw [hnw] at hwl
          have HNW := hide (show wt.length = nw ∧ nw ≤ 1000 from ⟨hnw, Nat.le_trans hwl HLR.out.1⟩)
          have HWT := hide (fun wx (hb : Below w7.heap.size w7 wx) => show Calls Try.prog 16 #[.pointer (some ⟨p', 0, none⟩), .int .i64 yr] wx fun e w' => ∃ A1 c1, e = .returned (.slice A1 nw c1) ∧ RRow w' A1 wt ∧ Below wx.heap.size wx w' from by
            have h := (HP7.out.below hb).waiting HFL1.out.1 HLR.out.1 yr
            rw [hwt, hnw] at h
            exact h)
          have HWD := hide (fun wx (hb : Below w7.heap.size w7 wx) => show Calls Try.prog 17 #[.pointer (some ⟨d', 0, none⟩), .int .i64 yr] wx fun e w' => ∃ A1 c1, e = .returned (.slice A1 nw c1) ∧ RRow w' A1 wt ∧ Below wx.heap.size wx w' from by
            have h := (HP7.out.below hb).waitingD HLR.out.1 yr
            rw [hwt, hnw] at h
            exact h)
          have HAX := hide (show ∀ wx, Below w7.heap.size w7 wx → ∀ j v, 0 < j → (#[.int .u8 kd, .string xk, .int .i64 xf, .int .i64 xt, .int .i64 xc, .int .i64 xg, .int .i64 xv, .int .i64 xz, .bool xb, .string yk, .int .i64 yr, .int .i64 yc, .int .i64 yp, .int .i64 yt, .int .i64 yq, .bool yd, .int .i64 yf, .int .i64 ys] : Array Value).toList[j]? = some v → wx.cell? ⟨(a.add (i * 18)).block, (a.add (i * 18)).off + j, none⟩ = some v from fun wx hb j v h0 hv => by
            obtain ⟨a2, ha, _, _, hc⟩ := (HF.out.below (HP7.out.below hb).be).load HLT.out
            cases ha
            rw [HFX.out] at hc
            rw [← Po.add_lits _ j h0]
            exact hc j v hv)
          clear hbf hwl hwt hnw
          go_upto_region 14 with (fail)
          let R : Nat → Value → World → Prop := fun sl u w1 => match sl with
            | 67 => u = .agg #[.string nk, .int .i64 nr, .int .i64 nc, .int .i64 np, .int .i64 nt, .int .i64 nq, .bool nd, .int .i64 nf, .int .i64 ns]
            | 68 => u = .agg #[.string nk, .int .i64 nr, .int .i64 nc, .int .i64 np, .int .i64 nt, .int .i64 nq, .bool nd, .int .i64 nf, .int .i64 ns]
            | 69 => u = .bool false
            | 70 => u = .bool false
            | 71 => u = .bool bo
            | 72 => u = .bool bo
            | 73 => u = .bool false
            | 74 => u = .bool false
            | 75 => u = .bool false
            | 76 => u = .pointer (some ⟨Y, 0, none⟩)
            | 77 => u = .pointer (some ⟨Y, 0, none⟩)
            | 78 => u = .pointer (some ⟨Y, 1, none⟩)
            | 79 => u = .pointer (some ⟨p', 0, none⟩)
            | 80 => u = .pointer (some ⟨RX, 1, none⟩)
            | 81 => u = .int .i64 yr
            | 82 => ∃ A1 c1, u = .slice A1 nw c1 ∧ RRow w1 A1 wt
            | 83 => u = .pointer (some ⟨Y, 0, none⟩)
            | 84 => u = .pointer (some ⟨Y, 0, none⟩)
            | 85 => u = .pointer (some ⟨Y, 3, none⟩)
            | 86 => u = .pointer (some ⟨d', 0, none⟩)
            | 87 => u = .pointer (some ⟨RX, 1, none⟩)
            | 88 => u = .int .i64 yr
            | 89 => ∃ A1 c1, u = .slice A1 nw c1 ∧ RRow w1 A1 wt
            | 90 => u = .bool true
            | 91 => u = .bool false
            | 92 => u = .bool false
            | 93 => u = .bool false
            | 94 => u = .pointer (some ⟨Y, 0, none⟩)
            | 95 => u = .pointer (some ⟨Y, 0, none⟩)
            | 96 => u = .pointer (some ⟨Y, 0, none⟩)
            | 97 => u = .pointer (some ⟨q', 0, none⟩)
            | 98 => ∃ A1 c1 K, u = .slice A1 K.length c1 ∧ IsLeft l' K ∧ MRow w1 A1 K
            | 99 => u = .pointer (some ⟨Y, 0, none⟩)
            | 100 => u = .pointer (some ⟨Y, 0, none⟩)
            | 101 => u = .pointer (some ⟨Y, 2, none⟩)
            | 102 => u = .pointer (some ⟨rq', 0, none⟩)
            | 103 => ∃ A1 c1 K, u = .slice A1 K.length c1 ∧ IsLeft l' K ∧ MRow w1 A1 K
            | 104 => u = .bool true
            | 105 => u = .bool false
            | 106 => u = .bool false
            | 107 => u = .bool false
            | 108 => u = .agg #[.string yk, .int .i64 yr, .int .i64 yc, .int .i64 yp, .int .i64 yt, .int .i64 yq, .bool yd, .int .i64 yf, .int .i64 ys]
            | 109 => u = .slice (some a) n cap
            | 110 => u = .int .i64 i
            | 111 => u = .pointer (some (a.add (i * 18)))
            | 112 => u = .pointer (some ⟨(a.add (i * 18)).block, (a.add (i * 18)).off + 1, none⟩)
            | 113 => u = .agg #[.string xk, .int .i64 xf, .int .i64 xt, .int .i64 xc, .int .i64 xg, .int .i64 xv, .int .i64 xz, .bool xb]
            | 114 => u = .bool bf
            | 115 => u = .agg #[.string yk, .int .i64 yr, .int .i64 yc, .int .i64 yp, .int .i64 yt, .int .i64 yq, .bool yd, .int .i64 yf, .int .i64 ys]
            | 116 => u = .slice (some a) n cap
            | 117 => u = .int .i64 i
            | 118 => u = .pointer (some (a.add (i * 18)))
            | 119 => u = .pointer (some ⟨(a.add (i * 18)).block, (a.add (i * 18)).off + 1, none⟩)
            | 120 => u = .agg #[.string xk, .int .i64 xf, .int .i64 xt, .int .i64 xc, .int .i64 xg, .int .i64 xv, .int .i64 xz, .bool xb]
            | 121 => u = .bool bf
            | 122 => u = .bool false
            | 123 => u = .bool false
            | _ => True
          refine wp_region_relGW [(70, false), (75, false), (93, false), (107, false)] R (fun a b => Below a.heap.size a b) (fun _ w => Below w7.heap.size w7 w) (by kernel_rfl) (by kernel_rfl) (by kernel_rfl) (by kernel_rfl) ?mono (fun w => Below.refl _ _) ((Below.refl _ _).drew) ?gs ?step ?fin
          case mono =>
            intro sl u wx wy h hk
            match sl with
            | 82 =>
              obtain ⟨A1, c1, h1, h2⟩ := h
              exact ⟨A1, c1, h1, h2.below hk⟩
            | 89 =>
              obtain ⟨A1, c1, h1, h2⟩ := h
              exact ⟨A1, c1, h1, h2.below hk⟩
            | 98 =>
              obtain ⟨A1, c1, K, h1, h2, h3⟩ := h
              exact ⟨A1, c1, K, h1, h2, h3.below hk⟩
            | 103 =>
              obtain ⟨A1, c1, K, h1, h2, h3⟩ := h
              exact ⟨A1, c1, K, h1, h2, h3.below hk⟩
            | 0 | 1 | 2 | 3 | 4 | 5 | 6 | 7 | 8 | 9 | 10 | 11 | 12 | 13 | 14 | 15 | 16 | 17 | 18 | 19 | 20 | 21 | 22 | 23 | 24 | 25 | 26 | 27 | 28 | 29 | 30 | 31 | 32 | 33 | 34 | 35 | 36 | 37 | 38 | 39 | 40 | 41 | 42 | 43 | 44 | 45 | 46 | 47 | 48 | 49 | 50 | 51 | 52 | 53 | 54 | 55 | 56 | 57 | 58 | 59 | 60 | 61 | 62 | 63 | 64 | 65 | 66 | 67 | 68 | 69 | 70 | 71 | 72 | 73 | 74 | 75 | 76 | 77 | 78 | 79 | 80 | 81 | 83 | 84 | 85 | 86 | 87 | 88 | 90 | 91 | 92 | 93 | 94 | 95 | 96 | 97 | 99 | 100 | 101 | 102 | 104 | 105 | 106 | 107 | 108 | 109 | 110 | 111 | 112 | 113 | 114 | 115 | 116 | 117 | 118 | 119 | 120 | 121 | 122 | 123 | _ + 124 => exact h
          case gs =>
            intro p hp u w1 h
            simp only [List.mem_cons, List.not_mem_nil, or_false] at hp
            rcases hp with rfl | rfl | rfl | rfl <;> exact h
          case step =>
            intro j o ho
            match j, ho with
            | 0, ho =>
              cases ho
              intro V aa wx hV hdep hval hj hsm hr
              have e6 : aa.tmps.getD 6 undef = .pointer (some ⟨Z6, 0, none⟩) := hsm 6 (by decide)
              have hk := K67.out.below hj K67.out.lt
              have x0 : wx.cell? ⟨Z6, 0, none⟩ = some (.string nk) := hk.cell 0
              have x1 : wx.cell? ⟨Z6, 1, none⟩ = some (.int .i64 nr) := hk.cell 1
              have x2 : wx.cell? ⟨Z6, 2, none⟩ = some (.int .i64 nc) := hk.cell 2
              have x3 : wx.cell? ⟨Z6, 3, none⟩ = some (.int .i64 np) := hk.cell 3
              have x4 : wx.cell? ⟨Z6, 4, none⟩ = some (.int .i64 nt) := hk.cell 4
              have x5 : wx.cell? ⟨Z6, 5, none⟩ = some (.int .i64 nq) := hk.cell 5
              have x6 : wx.cell? ⟨Z6, 6, none⟩ = some (.bool nd) := hk.cell 6
              have x7 : wx.cell? ⟨Z6, 7, none⟩ = some (.int .i64 nf) := hk.cell 7
              have x8 : wx.cell? ⟨Z6, 8, none⟩ = some (.int .i64 ns) := hk.cell 8
              rw [Array.getD_eq_getD_getElem?] at e6
              unfold Oper.wp
              simp only [execOp, Act.eval, Array.getD_eq_getD_getElem?, e6]
              go_simp
              first | exact ⟨_, rfl, rfl, Below.refl _ _⟩ | exact ⟨_, rfl, rfl, Below.refl _ _, hj⟩ | exact ⟨_, rfl, Below.refl _ _, hj⟩ | exact ⟨_, rfl, hj⟩
            | 1, ho =>
              cases ho
              intro V aa wx hV hdep hval hj hsm hr
              have e8 : aa.tmps.getD 8 undef = .pointer (some ⟨Z8, 0, none⟩) := hsm 8 (by decide)
              have hk := K8.out.below hj K8.out.lt
              have x0 : wx.cell? ⟨Z8, 0, none⟩ = some (.string nk) := hk.cell 0
              have x1 : wx.cell? ⟨Z8, 1, none⟩ = some (.int .i64 nr) := hk.cell 1
              have x2 : wx.cell? ⟨Z8, 2, none⟩ = some (.int .i64 nc) := hk.cell 2
              have x3 : wx.cell? ⟨Z8, 3, none⟩ = some (.int .i64 np) := hk.cell 3
              have x4 : wx.cell? ⟨Z8, 4, none⟩ = some (.int .i64 nt) := hk.cell 4
              have x5 : wx.cell? ⟨Z8, 5, none⟩ = some (.int .i64 nq) := hk.cell 5
              have x6 : wx.cell? ⟨Z8, 6, none⟩ = some (.bool nd) := hk.cell 6
              have x7 : wx.cell? ⟨Z8, 7, none⟩ = some (.int .i64 nf) := hk.cell 7
              have x8 : wx.cell? ⟨Z8, 8, none⟩ = some (.int .i64 ns) := hk.cell 8
              rw [Array.getD_eq_getD_getElem?] at e8
              unfold Oper.wp
              simp only [execOp, Act.eval, Array.getD_eq_getD_getElem?, e8]
              go_simp
              first | exact ⟨_, rfl, rfl, Below.refl _ _⟩ | exact ⟨_, rfl, rfl, Below.refl _ _, hj⟩ | exact ⟨_, rfl, Below.refl _ _, hj⟩ | exact ⟨_, rfl, hj⟩
            | 2, ho =>
              cases ho
              intro V aa wx hV hdep hval hj hsm hr
              have e67 : aa.tmps.getD 67 undef = .agg #[.string nk, .int .i64 nr, .int .i64 nc, .int .i64 np, .int .i64 nt, .int .i64 nq, .bool nd, .int .i64 nf, .int .i64 ns] := hr 67 (by decide) (by apply Array.mem_toList_iff.1; repeat (first | exact List.Mem.head _ | apply List.Mem.tail))
              have e68 : aa.tmps.getD 68 undef = .agg #[.string nk, .int .i64 nr, .int .i64 nc, .int .i64 np, .int .i64 nt, .int .i64 nq, .bool nd, .int .i64 nf, .int .i64 ns] := hr 68 (by decide) (by apply Array.mem_toList_iff.1; repeat (first | exact List.Mem.head _ | apply List.Mem.tail))
              have s1 := str_eq nk
              have s2 : (nd == nd) = true := by simp
              rw [Array.getD_eq_getD_getElem?] at e67
              rw [Array.getD_eq_getD_getElem?] at e68
              unfold Oper.wp
              simp only [execOp, Act.eval, Array.getD_eq_getD_getElem?, e67, e68]
              go_simp
              first | exact ⟨_, rfl, rfl, Below.refl _ _⟩ | exact ⟨_, rfl, rfl, Below.refl _ _, hj⟩ | exact ⟨_, rfl, Below.refl _ _, hj⟩ | exact ⟨_, rfl, hj⟩
            | 3, ho =>
              cases ho
              intro V aa wx hV hdep hval hj hsm hr
              have e69 : aa.tmps.getD 69 undef = .bool false := hr 69 (by decide) (by apply Array.mem_toList_iff.1; repeat (first | exact List.Mem.head _ | apply List.Mem.tail))
              rw [Array.getD_eq_getD_getElem?] at e69
              unfold Oper.wp
              simp only [execOp, Act.eval, Array.getD_eq_getD_getElem?, e69]
              go_simp
              first | exact ⟨_, rfl, rfl, Below.refl _ _⟩ | exact ⟨_, rfl, rfl, Below.refl _ _, hj⟩ | exact ⟨_, rfl, Below.refl _ _, hj⟩ | exact ⟨_, rfl, hj⟩
            | 4, ho =>
              cases ho
              intro V aa wx hV hdep hval hj hsm hr
              have e7 : aa.tmps.getD 7 undef = .bool bo := hsm 7 (by decide)
              rw [Array.getD_eq_getD_getElem?] at e7
              unfold Oper.wp
              simp only [execOp, Act.eval, Array.getD_eq_getD_getElem?, e7]
              go_simp
              first | exact ⟨_, rfl, rfl, Below.refl _ _⟩ | exact ⟨_, rfl, rfl, Below.refl _ _, hj⟩ | exact ⟨_, rfl, Below.refl _ _, hj⟩ | exact ⟨_, rfl, hj⟩
            | 5, ho =>
              cases ho
              intro V aa wx hV hdep hval hj hsm hr
              have e9 : aa.tmps.getD 9 undef = .bool bo := hsm 9 (by decide)
              rw [Array.getD_eq_getD_getElem?] at e9
              unfold Oper.wp
              simp only [execOp, Act.eval, Array.getD_eq_getD_getElem?, e9]
              go_simp
              first | exact ⟨_, rfl, rfl, Below.refl _ _⟩ | exact ⟨_, rfl, rfl, Below.refl _ _, hj⟩ | exact ⟨_, rfl, Below.refl _ _, hj⟩ | exact ⟨_, rfl, hj⟩
            | 6, ho =>
              cases ho
              intro V aa wx hV hdep hval hj hsm hr
              have e71 : aa.tmps.getD 71 undef = .bool bo := hr 71 (by decide) (by apply Array.mem_toList_iff.1; repeat (first | exact List.Mem.head _ | apply List.Mem.tail))
              have e72 : aa.tmps.getD 72 undef = .bool bo := hr 72 (by decide) (by apply Array.mem_toList_iff.1; repeat (first | exact List.Mem.head _ | apply List.Mem.tail))
              have s1 : (bo == bo) = true := by simp
              rw [Array.getD_eq_getD_getElem?] at e71
              rw [Array.getD_eq_getD_getElem?] at e72
              unfold Oper.wp
              simp only [execOp, Act.eval, Array.getD_eq_getD_getElem?, e71, e72]
              go_simp
              first | exact ⟨_, rfl, rfl, Below.refl _ _⟩ | exact ⟨_, rfl, rfl, Below.refl _ _, hj⟩ | exact ⟨_, rfl, Below.refl _ _, hj⟩ | exact ⟨_, rfl, hj⟩
            | 7, ho =>
              cases ho
              intro V aa wx hV hdep hval hj hsm hr
              have e70 : aa.tmps.getD 70 undef = .bool false := hr 70 (by decide) (by apply Array.mem_toList_iff.1; repeat (first | exact List.Mem.head _ | apply List.Mem.tail))
              have e73 : aa.tmps.getD 73 undef = .bool false := hr 73 (by decide) (by apply Array.mem_toList_iff.1; repeat (first | exact List.Mem.head _ | apply List.Mem.tail))
              rw [Array.getD_eq_getD_getElem?] at e70
              rw [Array.getD_eq_getD_getElem?] at e73
              unfold Oper.wp
              simp only [execOp, Act.eval, Array.getD_eq_getD_getElem?, e70, e73]
              go_simp
              first | exact ⟨_, rfl, rfl, Below.refl _ _⟩ | exact ⟨_, rfl, rfl, Below.refl _ _, hj⟩ | exact ⟨_, rfl, Below.refl _ _, hj⟩ | exact ⟨_, rfl, hj⟩
            | 8, ho =>
              cases ho
              intro V aa wx hV hdep hval hj hsm hr
              have e74 : aa.tmps.getD 74 undef = .bool false := hr 74 (by decide) (by apply Array.mem_toList_iff.1; repeat (first | exact List.Mem.head _ | apply List.Mem.tail))
              rw [Array.getD_eq_getD_getElem?] at e74
              unfold Oper.wp
              simp only [execOp, Act.eval, Array.getD_eq_getD_getElem?, e74]
              go_simp
              first | exact ⟨_, rfl, rfl, Below.refl _ _⟩ | exact ⟨_, rfl, rfl, Below.refl _ _, hj⟩ | exact ⟨_, rfl, Below.refl _ _, hj⟩ | exact ⟨_, rfl, hj⟩
            | 9, ho =>
              cases ho
              intro V aa wx hV hdep hval hj hsm hr
              have e3 : aa.tmps.getD 3 undef = .pointer (some ⟨Y, 0, none⟩) := hsm 3 (by decide)
              rw [Array.getD_eq_getD_getElem?] at e3
              unfold Oper.wp
              simp only [execOp, Act.eval, Array.getD_eq_getD_getElem?, e3]
              go_simp
              first | exact ⟨_, rfl, rfl, Below.refl _ _⟩ | exact ⟨_, rfl, rfl, Below.refl _ _, hj⟩ | exact ⟨_, rfl, Below.refl _ _, hj⟩ | exact ⟨_, rfl, hj⟩
            | 10, ho =>
              cases ho
              intro V aa wx hV hdep hval hj hsm hr
              have e76 : aa.tmps.getD 76 undef = .pointer (some ⟨Y, 0, none⟩) := hr 76 (by decide) (by apply Array.mem_toList_iff.1; repeat (first | exact List.Mem.head _ | apply List.Mem.tail))
              rw [Array.getD_eq_getD_getElem?] at e76
              unfold Oper.wp
              simp only [execOp, Act.eval, Array.getD_eq_getD_getElem?, e76]
              go_simp
              first | exact ⟨_, rfl, rfl, Below.refl _ _⟩ | exact ⟨_, rfl, rfl, Below.refl _ _, hj⟩ | exact ⟨_, rfl, Below.refl _ _, hj⟩ | exact ⟨_, rfl, hj⟩
            | 11, ho =>
              cases ho
              intro V aa wx hV hdep hval hj hsm hr
              have e77 : aa.tmps.getD 77 undef = .pointer (some ⟨Y, 0, none⟩) := hr 77 (by decide) (by apply Array.mem_toList_iff.1; repeat (first | exact List.Mem.head _ | apply List.Mem.tail))
              rw [Array.getD_eq_getD_getElem?] at e77
              unfold Oper.wp
              simp only [execOp, Act.eval, Array.getD_eq_getD_getElem?, e77]
              go_simp
              first | exact ⟨_, rfl, rfl, Below.refl _ _⟩ | exact ⟨_, rfl, rfl, Below.refl _ _, hj⟩ | exact ⟨_, rfl, Below.refl _ _, hj⟩ | exact ⟨_, rfl, hj⟩
            | 12, ho =>
              cases ho
              intro V aa wx hV hdep hval hj hsm hr
              have e78 : aa.tmps.getD 78 undef = .pointer (some ⟨Y, 1, none⟩) := hr 78 (by decide) (by apply Array.mem_toList_iff.1; repeat (first | exact List.Mem.head _ | apply List.Mem.tail))
              have hk := (HP7.out.below hj).blk
              have x1 : wx.cell? ⟨Y, 1, none⟩ = some (.pointer (some ⟨p', 0, none⟩)) := hk.cell 1
              rw [Array.getD_eq_getD_getElem?] at e78
              unfold Oper.wp
              simp only [execOp, Act.eval, Array.getD_eq_getD_getElem?, e78]
              go_simp
              first | exact ⟨_, rfl, rfl, Below.refl _ _⟩ | exact ⟨_, rfl, rfl, Below.refl _ _, hj⟩ | exact ⟨_, rfl, Below.refl _ _, hj⟩ | exact ⟨_, rfl, hj⟩
            | 13, ho =>
              cases ho
              intro V aa wx hV hdep hval hj hsm hr
              have e5 : aa.tmps.getD 5 undef = .pointer (some ⟨RX, 0, none⟩) := hsm 5 (by decide)
              rw [Array.getD_eq_getD_getElem?] at e5
              unfold Oper.wp
              simp only [execOp, Act.eval, Array.getD_eq_getD_getElem?, e5]
              go_simp
              first | exact ⟨_, rfl, rfl, Below.refl _ _⟩ | exact ⟨_, rfl, rfl, Below.refl _ _, hj⟩ | exact ⟨_, rfl, Below.refl _ _, hj⟩ | exact ⟨_, rfl, hj⟩
            | 14, ho =>
              cases ho
              intro V aa wx hV hdep hval hj hsm hr
              have e80 : aa.tmps.getD 80 undef = .pointer (some ⟨RX, 1, none⟩) := hr 80 (by decide) (by apply Array.mem_toList_iff.1; repeat (first | exact List.Mem.head _ | apply List.Mem.tail))
              have hk := KR7.out.below hj KR7.out.lt
              have x1 : wx.cell? ⟨RX, 1, none⟩ = some (.int .i64 yr) := hk.cell 1
              rw [Array.getD_eq_getD_getElem?] at e80
              unfold Oper.wp
              simp only [execOp, Act.eval, Array.getD_eq_getD_getElem?, e80]
              go_simp
              first | exact ⟨_, rfl, rfl, Below.refl _ _⟩ | exact ⟨_, rfl, rfl, Below.refl _ _, hj⟩ | exact ⟨_, rfl, Below.refl _ _, hj⟩ | exact ⟨_, rfl, hj⟩
            | 15, ho =>
              cases ho
              intro V aa wx hV hdep hval hj hsm hr
              have e79 : aa.tmps.getD 79 undef = .pointer (some ⟨p', 0, none⟩) := hr 79 (by decide) (by apply Array.mem_toList_iff.1; repeat (first | exact List.Mem.head _ | apply List.Mem.tail))
              have e81 : aa.tmps.getD 81 undef = .int .i64 yr := hr 81 (by decide) (by apply Array.mem_toList_iff.1; repeat (first | exact List.Mem.head _ | apply List.Mem.tail))
              rw [Array.getD_eq_getD_getElem?] at e79
              rw [Array.getD_eq_getD_getElem?] at e81
              unfold Oper.wp
              simp only [execOp, Act.eval, Array.getD_eq_getD_getElem?, e79, e81]
              go_simp
              refine (HWT.out wx hj).mono ?_
              rintro e w' ⟨A1, c1, rfl, hown, hb⟩
              exact ⟨_, rfl, ⟨A1, c1, rfl, hown⟩, hb, hj.trans (hb.mono hj.size)⟩
            | 16, ho =>
              cases ho
              intro V aa wx hV hdep hval hj hsm hr
              have e3 : aa.tmps.getD 3 undef = .pointer (some ⟨Y, 0, none⟩) := hsm 3 (by decide)
              rw [Array.getD_eq_getD_getElem?] at e3
              unfold Oper.wp
              simp only [execOp, Act.eval, Array.getD_eq_getD_getElem?, e3]
              go_simp
              first | exact ⟨_, rfl, rfl, Below.refl _ _⟩ | exact ⟨_, rfl, rfl, Below.refl _ _, hj⟩ | exact ⟨_, rfl, Below.refl _ _, hj⟩ | exact ⟨_, rfl, hj⟩
            | 17, ho =>
              cases ho
              intro V aa wx hV hdep hval hj hsm hr
              have e83 : aa.tmps.getD 83 undef = .pointer (some ⟨Y, 0, none⟩) := hr 83 (by decide) (by apply Array.mem_toList_iff.1; repeat (first | exact List.Mem.head _ | apply List.Mem.tail))
              rw [Array.getD_eq_getD_getElem?] at e83
              unfold Oper.wp
              simp only [execOp, Act.eval, Array.getD_eq_getD_getElem?, e83]
              go_simp
              first | exact ⟨_, rfl, rfl, Below.refl _ _⟩ | exact ⟨_, rfl, rfl, Below.refl _ _, hj⟩ | exact ⟨_, rfl, Below.refl _ _, hj⟩ | exact ⟨_, rfl, hj⟩
            | 18, ho =>
              cases ho
              intro V aa wx hV hdep hval hj hsm hr
              have e84 : aa.tmps.getD 84 undef = .pointer (some ⟨Y, 0, none⟩) := hr 84 (by decide) (by apply Array.mem_toList_iff.1; repeat (first | exact List.Mem.head _ | apply List.Mem.tail))
              rw [Array.getD_eq_getD_getElem?] at e84
              unfold Oper.wp
              simp only [execOp, Act.eval, Array.getD_eq_getD_getElem?, e84]
              go_simp
              first | exact ⟨_, rfl, rfl, Below.refl _ _⟩ | exact ⟨_, rfl, rfl, Below.refl _ _, hj⟩ | exact ⟨_, rfl, Below.refl _ _, hj⟩ | exact ⟨_, rfl, hj⟩
            | 19, ho =>
              cases ho
              intro V aa wx hV hdep hval hj hsm hr
              have e85 : aa.tmps.getD 85 undef = .pointer (some ⟨Y, 3, none⟩) := hr 85 (by decide) (by apply Array.mem_toList_iff.1; repeat (first | exact List.Mem.head _ | apply List.Mem.tail))
              have hk := (HP7.out.below hj).blk
              have x3 : wx.cell? ⟨Y, 3, none⟩ = some (.pointer (some ⟨d', 0, none⟩)) := hk.cell 3
              rw [Array.getD_eq_getD_getElem?] at e85
              unfold Oper.wp
              simp only [execOp, Act.eval, Array.getD_eq_getD_getElem?, e85]
              go_simp
              first | exact ⟨_, rfl, rfl, Below.refl _ _⟩ | exact ⟨_, rfl, rfl, Below.refl _ _, hj⟩ | exact ⟨_, rfl, Below.refl _ _, hj⟩ | exact ⟨_, rfl, hj⟩
            | 20, ho =>
              cases ho
              intro V aa wx hV hdep hval hj hsm hr
              have e5 : aa.tmps.getD 5 undef = .pointer (some ⟨RX, 0, none⟩) := hsm 5 (by decide)
              rw [Array.getD_eq_getD_getElem?] at e5
              unfold Oper.wp
              simp only [execOp, Act.eval, Array.getD_eq_getD_getElem?, e5]
              go_simp
              first | exact ⟨_, rfl, rfl, Below.refl _ _⟩ | exact ⟨_, rfl, rfl, Below.refl _ _, hj⟩ | exact ⟨_, rfl, Below.refl _ _, hj⟩ | exact ⟨_, rfl, hj⟩
            | 21, ho =>
              cases ho
              intro V aa wx hV hdep hval hj hsm hr
              have e87 : aa.tmps.getD 87 undef = .pointer (some ⟨RX, 1, none⟩) := hr 87 (by decide) (by apply Array.mem_toList_iff.1; repeat (first | exact List.Mem.head _ | apply List.Mem.tail))
              have hk := KR7.out.below hj KR7.out.lt
              have x1 : wx.cell? ⟨RX, 1, none⟩ = some (.int .i64 yr) := hk.cell 1
              rw [Array.getD_eq_getD_getElem?] at e87
              unfold Oper.wp
              simp only [execOp, Act.eval, Array.getD_eq_getD_getElem?, e87]
              go_simp
              first | exact ⟨_, rfl, rfl, Below.refl _ _⟩ | exact ⟨_, rfl, rfl, Below.refl _ _, hj⟩ | exact ⟨_, rfl, Below.refl _ _, hj⟩ | exact ⟨_, rfl, hj⟩
            | 22, ho =>
              cases ho
              intro V aa wx hV hdep hval hj hsm hr
              have e86 : aa.tmps.getD 86 undef = .pointer (some ⟨d', 0, none⟩) := hr 86 (by decide) (by apply Array.mem_toList_iff.1; repeat (first | exact List.Mem.head _ | apply List.Mem.tail))
              have e88 : aa.tmps.getD 88 undef = .int .i64 yr := hr 88 (by decide) (by apply Array.mem_toList_iff.1; repeat (first | exact List.Mem.head _ | apply List.Mem.tail))
              rw [Array.getD_eq_getD_getElem?] at e86
              rw [Array.getD_eq_getD_getElem?] at e88
              unfold Oper.wp
              simp only [execOp, Act.eval, Array.getD_eq_getD_getElem?, e86, e88]
              go_simp
              refine (HWD.out wx hj).mono ?_
              rintro e w' ⟨A1, c1, rfl, hown, hb⟩
              exact ⟨_, rfl, ⟨A1, c1, rfl, hown⟩, hb, hj.trans (hb.mono hj.size)⟩
            | 23, ho =>
              cases ho
              intro V aa wx hV hdep hval hj hsm hr
              have r82 := hr 82 (by decide) (by apply Array.mem_toList_iff.1; repeat (first | exact List.Mem.head _ | apply List.Mem.tail))
              have r89 := hr 89 (by decide) (by apply Array.mem_toList_iff.1; repeat (first | exact List.Mem.head _ | apply List.Mem.tail))
              obtain ⟨A5, c5, e82, h5⟩ := r82
              have e82 : aa.tmps.getD 82 undef = .slice A5 nw c5 := e82
              obtain ⟨A8, c8, e89, h8⟩ := r89
              have e89 : aa.tmps.getD 89 undef = .slice A8 nw c8 := e89
              rw [Array.getD_eq_getD_getElem?] at e82
              rw [Array.getD_eq_getD_getElem?] at e89
              unfold Oper.wp
              simp only [execOp, Act.eval, Array.getD_eq_getD_getElem?, e82, e89]
              go_simp
              refine (sameR_b A5 A8 c5 c8 nw wt h5 h8 HNW.out.1 (by have := HNW.out.2; omega)).mono ?_
              rintro e w' ⟨rfl, hb⟩
              exact ⟨_, rfl, rfl, hb, hj.trans (hb.mono hj.size)⟩
            | 24, ho =>
              cases ho
              intro V aa wx hV hdep hval hj hsm hr
              have e90 : aa.tmps.getD 90 undef = .bool true := hr 90 (by decide) (by apply Array.mem_toList_iff.1; repeat (first | exact List.Mem.head _ | apply List.Mem.tail))
              rw [Array.getD_eq_getD_getElem?] at e90
              unfold Oper.wp
              simp only [execOp, Act.eval, Array.getD_eq_getD_getElem?, e90]
              go_simp
              first | exact ⟨_, rfl, rfl, Below.refl _ _⟩ | exact ⟨_, rfl, rfl, Below.refl _ _, hj⟩ | exact ⟨_, rfl, Below.refl _ _, hj⟩ | exact ⟨_, rfl, hj⟩
            | 25, ho =>
              cases ho
              intro V aa wx hV hdep hval hj hsm hr
              have e75 : aa.tmps.getD 75 undef = .bool false := hr 75 (by decide) (by apply Array.mem_toList_iff.1; repeat (first | exact List.Mem.head _ | apply List.Mem.tail))
              have e91 : aa.tmps.getD 91 undef = .bool false := hr 91 (by decide) (by apply Array.mem_toList_iff.1; repeat (first | exact List.Mem.head _ | apply List.Mem.tail))
              rw [Array.getD_eq_getD_getElem?] at e75
              rw [Array.getD_eq_getD_getElem?] at e91
              unfold Oper.wp
              simp only [execOp, Act.eval, Array.getD_eq_getD_getElem?, e75, e91]
              go_simp
              first | exact ⟨_, rfl, rfl, Below.refl _ _⟩ | exact ⟨_, rfl, rfl, Below.refl _ _, hj⟩ | exact ⟨_, rfl, Below.refl _ _, hj⟩ | exact ⟨_, rfl, hj⟩
            | 26, ho =>
              cases ho
              intro V aa wx hV hdep hval hj hsm hr
              have e92 : aa.tmps.getD 92 undef = .bool false := hr 92 (by decide) (by apply Array.mem_toList_iff.1; repeat (first | exact List.Mem.head _ | apply List.Mem.tail))
              rw [Array.getD_eq_getD_getElem?] at e92
              unfold Oper.wp
              simp only [execOp, Act.eval, Array.getD_eq_getD_getElem?, e92]
              go_simp
              first | exact ⟨_, rfl, rfl, Below.refl _ _⟩ | exact ⟨_, rfl, rfl, Below.refl _ _, hj⟩ | exact ⟨_, rfl, Below.refl _ _, hj⟩ | exact ⟨_, rfl, hj⟩
            | 27, ho =>
              cases ho
              intro V aa wx hV hdep hval hj hsm hr
              have e3 : aa.tmps.getD 3 undef = .pointer (some ⟨Y, 0, none⟩) := hsm 3 (by decide)
              rw [Array.getD_eq_getD_getElem?] at e3
              unfold Oper.wp
              simp only [execOp, Act.eval, Array.getD_eq_getD_getElem?, e3]
              go_simp
              first | exact ⟨_, rfl, rfl, Below.refl _ _⟩ | exact ⟨_, rfl, rfl, Below.refl _ _, hj⟩ | exact ⟨_, rfl, Below.refl _ _, hj⟩ | exact ⟨_, rfl, hj⟩
            | 28, ho =>
              cases ho
              intro V aa wx hV hdep hval hj hsm hr
              have e94 : aa.tmps.getD 94 undef = .pointer (some ⟨Y, 0, none⟩) := hr 94 (by decide) (by apply Array.mem_toList_iff.1; repeat (first | exact List.Mem.head _ | apply List.Mem.tail))
              rw [Array.getD_eq_getD_getElem?] at e94
              unfold Oper.wp
              simp only [execOp, Act.eval, Array.getD_eq_getD_getElem?, e94]
              go_simp
              first | exact ⟨_, rfl, rfl, Below.refl _ _⟩ | exact ⟨_, rfl, rfl, Below.refl _ _, hj⟩ | exact ⟨_, rfl, Below.refl _ _, hj⟩ | exact ⟨_, rfl, hj⟩
            | 29, ho =>
              cases ho
              intro V aa wx hV hdep hval hj hsm hr
              have e95 : aa.tmps.getD 95 undef = .pointer (some ⟨Y, 0, none⟩) := hr 95 (by decide) (by apply Array.mem_toList_iff.1; repeat (first | exact List.Mem.head _ | apply List.Mem.tail))
              rw [Array.getD_eq_getD_getElem?] at e95
              unfold Oper.wp
              simp only [execOp, Act.eval, Array.getD_eq_getD_getElem?, e95]
              go_simp
              first | exact ⟨_, rfl, rfl, Below.refl _ _⟩ | exact ⟨_, rfl, rfl, Below.refl _ _, hj⟩ | exact ⟨_, rfl, Below.refl _ _, hj⟩ | exact ⟨_, rfl, hj⟩
            | 30, ho =>
              cases ho
              intro V aa wx hV hdep hval hj hsm hr
              have e96 : aa.tmps.getD 96 undef = .pointer (some ⟨Y, 0, none⟩) := hr 96 (by decide) (by apply Array.mem_toList_iff.1; repeat (first | exact List.Mem.head _ | apply List.Mem.tail))
              have hk := (HP7.out.below hj).blk
              have x0 : wx.cell? ⟨Y, 0, none⟩ = some (.pointer (some ⟨q', 0, none⟩)) := hk.cell 0
              rw [Array.getD_eq_getD_getElem?] at e96
              unfold Oper.wp
              simp only [execOp, Act.eval, Array.getD_eq_getD_getElem?, e96]
              go_simp
              first | exact ⟨_, rfl, rfl, Below.refl _ _⟩ | exact ⟨_, rfl, rfl, Below.refl _ _, hj⟩ | exact ⟨_, rfl, Below.refl _ _, hj⟩ | exact ⟨_, rfl, hj⟩
            | 31, ho =>
              cases ho
              intro V aa wx hV hdep hval hj hsm hr
              have e97 : aa.tmps.getD 97 undef = .pointer (some ⟨q', 0, none⟩) := hr 97 (by decide) (by apply Array.mem_toList_iff.1; repeat (first | exact List.Mem.head _ | apply List.Mem.tail))
              rw [Array.getD_eq_getD_getElem?] at e97
              unfold Oper.wp
              simp only [execOp, Act.eval, Array.getD_eq_getD_getElem?, e97]
              go_simp
              refine ((HP7.out.below hj).left HLR.out.2).mono ?_
              rintro e w' ⟨A1, c1, K, rfl, hk1, hown, hb⟩
              exact ⟨_, rfl, ⟨A1, c1, K, rfl, hk1, hown⟩, hb, hj.trans (hb.mono hj.size)⟩
            | 32, ho =>
              cases ho
              intro V aa wx hV hdep hval hj hsm hr
              have e3 : aa.tmps.getD 3 undef = .pointer (some ⟨Y, 0, none⟩) := hsm 3 (by decide)
              rw [Array.getD_eq_getD_getElem?] at e3
              unfold Oper.wp
              simp only [execOp, Act.eval, Array.getD_eq_getD_getElem?, e3]
              go_simp
              first | exact ⟨_, rfl, rfl, Below.refl _ _⟩ | exact ⟨_, rfl, rfl, Below.refl _ _, hj⟩ | exact ⟨_, rfl, Below.refl _ _, hj⟩ | exact ⟨_, rfl, hj⟩
            | 33, ho =>
              cases ho
              intro V aa wx hV hdep hval hj hsm hr
              have e99 : aa.tmps.getD 99 undef = .pointer (some ⟨Y, 0, none⟩) := hr 99 (by decide) (by apply Array.mem_toList_iff.1; repeat (first | exact List.Mem.head _ | apply List.Mem.tail))
              rw [Array.getD_eq_getD_getElem?] at e99
              unfold Oper.wp
              simp only [execOp, Act.eval, Array.getD_eq_getD_getElem?, e99]
              go_simp
              first | exact ⟨_, rfl, rfl, Below.refl _ _⟩ | exact ⟨_, rfl, rfl, Below.refl _ _, hj⟩ | exact ⟨_, rfl, Below.refl _ _, hj⟩ | exact ⟨_, rfl, hj⟩
            | 34, ho =>
              cases ho
              intro V aa wx hV hdep hval hj hsm hr
              have e100 : aa.tmps.getD 100 undef = .pointer (some ⟨Y, 0, none⟩) := hr 100 (by decide) (by apply Array.mem_toList_iff.1; repeat (first | exact List.Mem.head _ | apply List.Mem.tail))
              rw [Array.getD_eq_getD_getElem?] at e100
              unfold Oper.wp
              simp only [execOp, Act.eval, Array.getD_eq_getD_getElem?, e100]
              go_simp
              first | exact ⟨_, rfl, rfl, Below.refl _ _⟩ | exact ⟨_, rfl, rfl, Below.refl _ _, hj⟩ | exact ⟨_, rfl, Below.refl _ _, hj⟩ | exact ⟨_, rfl, hj⟩
            | 35, ho =>
              cases ho
              intro V aa wx hV hdep hval hj hsm hr
              have e101 : aa.tmps.getD 101 undef = .pointer (some ⟨Y, 2, none⟩) := hr 101 (by decide) (by apply Array.mem_toList_iff.1; repeat (first | exact List.Mem.head _ | apply List.Mem.tail))
              have hk := (HP7.out.below hj).blk
              have x2 : wx.cell? ⟨Y, 2, none⟩ = some (.pointer (some ⟨rq', 0, none⟩)) := hk.cell 2
              rw [Array.getD_eq_getD_getElem?] at e101
              unfold Oper.wp
              simp only [execOp, Act.eval, Array.getD_eq_getD_getElem?, e101]
              go_simp
              first | exact ⟨_, rfl, rfl, Below.refl _ _⟩ | exact ⟨_, rfl, rfl, Below.refl _ _, hj⟩ | exact ⟨_, rfl, Below.refl _ _, hj⟩ | exact ⟨_, rfl, hj⟩
            | 36, ho =>
              cases ho
              intro V aa wx hV hdep hval hj hsm hr
              have e102 : aa.tmps.getD 102 undef = .pointer (some ⟨rq', 0, none⟩) := hr 102 (by decide) (by apply Array.mem_toList_iff.1; repeat (first | exact List.Mem.head _ | apply List.Mem.tail))
              rw [Array.getD_eq_getD_getElem?] at e102
              unfold Oper.wp
              simp only [execOp, Act.eval, Array.getD_eq_getD_getElem?, e102]
              go_simp
              refine ((HP7.out.below hj).leftD HLR.out.2).mono ?_
              rintro e w' ⟨A1, c1, K, rfl, hk1, hown, hb⟩
              exact ⟨_, rfl, ⟨A1, c1, K, rfl, hk1, hown⟩, hb, hj.trans (hb.mono hj.size)⟩
            | 37, ho =>
              cases ho
              intro V aa wx hV hdep hval hj hsm hr
              have r98 := hr 98 (by decide) (by apply Array.mem_toList_iff.1; repeat (first | exact List.Mem.head _ | apply List.Mem.tail))
              have r103 := hr 103 (by decide) (by apply Array.mem_toList_iff.1; repeat (first | exact List.Mem.head _ | apply List.Mem.tail))
              obtain ⟨A5, c5, K5, e98, hk5, h5⟩ := r98
              have e98 : aa.tmps.getD 98 undef = .slice A5 K5.length c5 := e98
              obtain ⟨A8, c8, K8, e103, hk8, h8⟩ := r103
              obtain rfl : K5 = K8 := isLeft_one hk5 hk8
              have e103 : aa.tmps.getD 103 undef = .slice A8 K5.length c8 := e103
              have hkl := isLeft_len hk5
              rw [Array.getD_eq_getD_getElem?] at e98
              rw [Array.getD_eq_getD_getElem?] at e103
              unfold Oper.wp
              simp only [execOp, Act.eval, Array.getD_eq_getD_getElem?, e98, e103]
              go_simp
              refine (Same_b A5 A8 c5 c8 K5.length K5 h5 h8 rfl (by have := HLR.out.2; omega)).mono ?_
              rintro e w' ⟨rfl, hb⟩
              exact ⟨_, rfl, rfl, hb, hj.trans (hb.mono hj.size)⟩
            | 38, ho =>
              cases ho
              intro V aa wx hV hdep hval hj hsm hr
              have e104 : aa.tmps.getD 104 undef = .bool true := hr 104 (by decide) (by apply Array.mem_toList_iff.1; repeat (first | exact List.Mem.head _ | apply List.Mem.tail))
              rw [Array.getD_eq_getD_getElem?] at e104
              unfold Oper.wp
              simp only [execOp, Act.eval, Array.getD_eq_getD_getElem?, e104]
              go_simp
              first | exact ⟨_, rfl, rfl, Below.refl _ _⟩ | exact ⟨_, rfl, rfl, Below.refl _ _, hj⟩ | exact ⟨_, rfl, Below.refl _ _, hj⟩ | exact ⟨_, rfl, hj⟩
            | 39, ho =>
              cases ho
              intro V aa wx hV hdep hval hj hsm hr
              have e93 : aa.tmps.getD 93 undef = .bool false := hr 93 (by decide) (by apply Array.mem_toList_iff.1; repeat (first | exact List.Mem.head _ | apply List.Mem.tail))
              have e105 : aa.tmps.getD 105 undef = .bool false := hr 105 (by decide) (by apply Array.mem_toList_iff.1; repeat (first | exact List.Mem.head _ | apply List.Mem.tail))
              rw [Array.getD_eq_getD_getElem?] at e93
              rw [Array.getD_eq_getD_getElem?] at e105
              unfold Oper.wp
              simp only [execOp, Act.eval, Array.getD_eq_getD_getElem?, e93, e105]
              go_simp
              first | exact ⟨_, rfl, rfl, Below.refl _ _⟩ | exact ⟨_, rfl, rfl, Below.refl _ _, hj⟩ | exact ⟨_, rfl, Below.refl _ _, hj⟩ | exact ⟨_, rfl, hj⟩
            | 40, ho =>
              cases ho
              intro V aa wx hV hdep hval hj hsm hr
              have e106 : aa.tmps.getD 106 undef = .bool false := hr 106 (by decide) (by apply Array.mem_toList_iff.1; repeat (first | exact List.Mem.head _ | apply List.Mem.tail))
              rw [Array.getD_eq_getD_getElem?] at e106
              unfold Oper.wp
              simp only [execOp, Act.eval, Array.getD_eq_getD_getElem?, e106]
              go_simp
              first | exact ⟨_, rfl, rfl, Below.refl _ _⟩ | exact ⟨_, rfl, rfl, Below.refl _ _, hj⟩ | exact ⟨_, rfl, Below.refl _ _, hj⟩ | exact ⟨_, rfl, hj⟩
            | 41, ho =>
              cases ho
              intro V aa wx hV hdep hval hj hsm hr
              have e5 : aa.tmps.getD 5 undef = .pointer (some ⟨RX, 0, none⟩) := hsm 5 (by decide)
              have hk := KR7.out.below hj KR7.out.lt
              have x0 : wx.cell? ⟨RX, 0, none⟩ = some (.string yk) := hk.cell 0
              have x1 : wx.cell? ⟨RX, 1, none⟩ = some (.int .i64 yr) := hk.cell 1
              have x2 : wx.cell? ⟨RX, 2, none⟩ = some (.int .i64 yc) := hk.cell 2
              have x3 : wx.cell? ⟨RX, 3, none⟩ = some (.int .i64 yp) := hk.cell 3
              have x4 : wx.cell? ⟨RX, 4, none⟩ = some (.int .i64 yt) := hk.cell 4
              have x5 : wx.cell? ⟨RX, 5, none⟩ = some (.int .i64 yq) := hk.cell 5
              have x6 : wx.cell? ⟨RX, 6, none⟩ = some (.bool yd) := hk.cell 6
              have x7 : wx.cell? ⟨RX, 7, none⟩ = some (.int .i64 yf) := hk.cell 7
              have x8 : wx.cell? ⟨RX, 8, none⟩ = some (.int .i64 ys) := hk.cell 8
              rw [Array.getD_eq_getD_getElem?] at e5
              unfold Oper.wp
              simp only [execOp, Act.eval, Array.getD_eq_getD_getElem?, e5]
              go_simp
              first | exact ⟨_, rfl, rfl, Below.refl _ _⟩ | exact ⟨_, rfl, rfl, Below.refl _ _, hj⟩ | exact ⟨_, rfl, Below.refl _ _, hj⟩ | exact ⟨_, rfl, hj⟩
            | 42, ho =>
              cases ho
              intro V aa wx hV hdep hval hj hsm hr
              have e0 : aa.tmps.getD 0 undef = .slice (some a) n cap := hsm 0 (by decide)
              rw [Array.getD_eq_getD_getElem?] at e0
              unfold Oper.wp
              simp only [execOp, Act.eval, Array.getD_eq_getD_getElem?, e0]
              go_simp
              first | exact ⟨_, rfl, rfl, Below.refl _ _⟩ | exact ⟨_, rfl, rfl, Below.refl _ _, hj⟩ | exact ⟨_, rfl, Below.refl _ _, hj⟩ | exact ⟨_, rfl, hj⟩
            | 43, ho =>
              cases ho
              intro V aa wx hV hdep hval hj hsm hr
              have e4 : aa.tmps.getD 4 undef = .int .i64 i := hsm 4 (by decide)
              rw [Array.getD_eq_getD_getElem?] at e4
              unfold Oper.wp
              simp only [execOp, Act.eval, Array.getD_eq_getD_getElem?, e4]
              go_simp
              first | exact ⟨_, rfl, rfl, Below.refl _ _⟩ | exact ⟨_, rfl, rfl, Below.refl _ _, hj⟩ | exact ⟨_, rfl, Below.refl _ _, hj⟩ | exact ⟨_, rfl, hj⟩
            | 44, ho =>
              cases ho
              intro V aa wx hV hdep hval hj hsm hr
              have e109 : aa.tmps.getD 109 undef = .slice (some a) n cap := hr 109 (by decide) (by apply Array.mem_toList_iff.1; repeat (first | exact List.Mem.head _ | apply List.Mem.tail))
              have e110 : aa.tmps.getD 110 undef = .int .i64 i := hr 110 (by decide) (by apply Array.mem_toList_iff.1; repeat (first | exact List.Mem.head _ | apply List.Mem.tail))
              have hn1 := HNL.out
              have hlt := HLT.out
              rw [Array.getD_eq_getD_getElem?] at e109
              rw [Array.getD_eq_getD_getElem?] at e110
              unfold Oper.wp
              simp only [execOp, Act.eval, Array.getD_eq_getD_getElem?, e109, e110]
              go_simp
              first | exact ⟨_, rfl, rfl, Below.refl _ _⟩ | exact ⟨_, rfl, rfl, Below.refl _ _, hj⟩ | exact ⟨_, rfl, Below.refl _ _, hj⟩ | exact ⟨_, rfl, hj⟩
            | 45, ho =>
              cases ho
              intro V aa wx hV hdep hval hj hsm hr
              have e111 : aa.tmps.getD 111 undef = .pointer (some (a.add (i * 18))) := hr 111 (by decide) (by apply Array.mem_toList_iff.1; repeat (first | exact List.Mem.head _ | apply List.Mem.tail))
              rw [Array.getD_eq_getD_getElem?] at e111
              unfold Oper.wp
              simp only [execOp, Act.eval, Array.getD_eq_getD_getElem?, e111]
              go_simp
              first | exact ⟨_, rfl, rfl, Below.refl _ _⟩ | exact ⟨_, rfl, rfl, Below.refl _ _, hj⟩ | exact ⟨_, rfl, Below.refl _ _, hj⟩ | exact ⟨_, rfl, hj⟩
            | 46, ho =>
              cases ho
              intro V aa wx hV hdep hval hj hsm hr
              have e112 : aa.tmps.getD 112 undef = .pointer (some ⟨(a.add (i * 18)).block, (a.add (i * 18)).off + 1, none⟩) := hr 112 (by decide) (by apply Array.mem_toList_iff.1; repeat (first | exact List.Mem.head _ | apply List.Mem.tail))
              have hx := HAX.out wx hj
              have x0 : wx.cell? ⟨(a.add (i * 18)).block, (a.add (i * 18)).off + 1, none⟩ = some (.string xk) := hx 1 _ (by decide) rfl
              have x1 : wx.cell? ⟨(a.add (i * 18)).block, (a.add (i * 18)).off + 2, none⟩ = some (.int .i64 xf) := hx 2 _ (by decide) rfl
              have x2 : wx.cell? ⟨(a.add (i * 18)).block, (a.add (i * 18)).off + 3, none⟩ = some (.int .i64 xt) := hx 3 _ (by decide) rfl
              have x3 : wx.cell? ⟨(a.add (i * 18)).block, (a.add (i * 18)).off + 4, none⟩ = some (.int .i64 xc) := hx 4 _ (by decide) rfl
              have x4 : wx.cell? ⟨(a.add (i * 18)).block, (a.add (i * 18)).off + 5, none⟩ = some (.int .i64 xg) := hx 5 _ (by decide) rfl
              have x5 : wx.cell? ⟨(a.add (i * 18)).block, (a.add (i * 18)).off + 6, none⟩ = some (.int .i64 xv) := hx 6 _ (by decide) rfl
              have x6 : wx.cell? ⟨(a.add (i * 18)).block, (a.add (i * 18)).off + 7, none⟩ = some (.int .i64 xz) := hx 7 _ (by decide) rfl
              have x7 : wx.cell? ⟨(a.add (i * 18)).block, (a.add (i * 18)).off + 8, none⟩ = some (.bool xb) := hx 8 _ (by decide) rfl
              clear hx
              rw [Array.getD_eq_getD_getElem?] at e112
              unfold Oper.wp
              simp only [execOp, Act.eval, Array.getD_eq_getD_getElem?, e112]
              go_simp
              first | exact ⟨_, rfl, rfl, Below.refl _ _⟩ | exact ⟨_, rfl, rfl, Below.refl _ _, hj⟩ | exact ⟨_, rfl, Below.refl _ _, hj⟩ | exact ⟨_, rfl, hj⟩
            | 47, ho =>
              cases ho
              intro V aa wx hV hdep hval hj hsm hr
              have e108 : aa.tmps.getD 108 undef = .agg #[.string yk, .int .i64 yr, .int .i64 yc, .int .i64 yp, .int .i64 yt, .int .i64 yq, .bool yd, .int .i64 yf, .int .i64 ys] := hr 108 (by decide) (by apply Array.mem_toList_iff.1; repeat (first | exact List.Mem.head _ | apply List.Mem.tail))
              have e113 : aa.tmps.getD 113 undef = .agg #[.string xk, .int .i64 xf, .int .i64 xt, .int .i64 xc, .int .i64 xg, .int .i64 xv, .int .i64 xz, .bool xb] := hr 113 (by decide) (by apply Array.mem_toList_iff.1; repeat (first | exact List.Mem.head _ | apply List.Mem.tail))
              rw [Array.getD_eq_getD_getElem?] at e108
              rw [Array.getD_eq_getD_getElem?] at e113
              unfold Oper.wp
              simp only [execOp, Act.eval, Array.getD_eq_getD_getElem?, e108, e113]
              go_simp
              refine (HFC.out wx).mono ?_
              rintro e w' ⟨rfl, hb⟩
              exact ⟨_, rfl, rfl, hb, hj.trans (hb.mono hj.size)⟩
            | 48, ho =>
              cases ho
              intro V aa wx hV hdep hval hj hsm hr
              have e5 : aa.tmps.getD 5 undef = .pointer (some ⟨RX, 0, none⟩) := hsm 5 (by decide)
              have hk := KR7.out.below hj KR7.out.lt
              have x0 : wx.cell? ⟨RX, 0, none⟩ = some (.string yk) := hk.cell 0
              have x1 : wx.cell? ⟨RX, 1, none⟩ = some (.int .i64 yr) := hk.cell 1
              have x2 : wx.cell? ⟨RX, 2, none⟩ = some (.int .i64 yc) := hk.cell 2
              have x3 : wx.cell? ⟨RX, 3, none⟩ = some (.int .i64 yp) := hk.cell 3
              have x4 : wx.cell? ⟨RX, 4, none⟩ = some (.int .i64 yt) := hk.cell 4
              have x5 : wx.cell? ⟨RX, 5, none⟩ = some (.int .i64 yq) := hk.cell 5
              have x6 : wx.cell? ⟨RX, 6, none⟩ = some (.bool yd) := hk.cell 6
              have x7 : wx.cell? ⟨RX, 7, none⟩ = some (.int .i64 yf) := hk.cell 7
              have x8 : wx.cell? ⟨RX, 8, none⟩ = some (.int .i64 ys) := hk.cell 8
              rw [Array.getD_eq_getD_getElem?] at e5
              unfold Oper.wp
              simp only [execOp, Act.eval, Array.getD_eq_getD_getElem?, e5]
              go_simp
              first | exact ⟨_, rfl, rfl, Below.refl _ _⟩ | exact ⟨_, rfl, rfl, Below.refl _ _, hj⟩ | exact ⟨_, rfl, Below.refl _ _, hj⟩ | exact ⟨_, rfl, hj⟩
            | 49, ho =>
              cases ho
              intro V aa wx hV hdep hval hj hsm hr
              have e0 : aa.tmps.getD 0 undef = .slice (some a) n cap := hsm 0 (by decide)
              rw [Array.getD_eq_getD_getElem?] at e0
              unfold Oper.wp
              simp only [execOp, Act.eval, Array.getD_eq_getD_getElem?, e0]
              go_simp
              first | exact ⟨_, rfl, rfl, Below.refl _ _⟩ | exact ⟨_, rfl, rfl, Below.refl _ _, hj⟩ | exact ⟨_, rfl, Below.refl _ _, hj⟩ | exact ⟨_, rfl, hj⟩
            | 50, ho =>
              cases ho
              intro V aa wx hV hdep hval hj hsm hr
              have e4 : aa.tmps.getD 4 undef = .int .i64 i := hsm 4 (by decide)
              rw [Array.getD_eq_getD_getElem?] at e4
              unfold Oper.wp
              simp only [execOp, Act.eval, Array.getD_eq_getD_getElem?, e4]
              go_simp
              first | exact ⟨_, rfl, rfl, Below.refl _ _⟩ | exact ⟨_, rfl, rfl, Below.refl _ _, hj⟩ | exact ⟨_, rfl, Below.refl _ _, hj⟩ | exact ⟨_, rfl, hj⟩
            | 51, ho =>
              cases ho
              intro V aa wx hV hdep hval hj hsm hr
              have e116 : aa.tmps.getD 116 undef = .slice (some a) n cap := hr 116 (by decide) (by apply Array.mem_toList_iff.1; repeat (first | exact List.Mem.head _ | apply List.Mem.tail))
              have e117 : aa.tmps.getD 117 undef = .int .i64 i := hr 117 (by decide) (by apply Array.mem_toList_iff.1; repeat (first | exact List.Mem.head _ | apply List.Mem.tail))
              have hn1 := HNL.out
              have hlt := HLT.out
              rw [Array.getD_eq_getD_getElem?] at e116
              rw [Array.getD_eq_getD_getElem?] at e117
              unfold Oper.wp
              simp only [execOp, Act.eval, Array.getD_eq_getD_getElem?, e116, e117]
              go_simp
              first | exact ⟨_, rfl, rfl, Below.refl _ _⟩ | exact ⟨_, rfl, rfl, Below.refl _ _, hj⟩ | exact ⟨_, rfl, Below.refl _ _, hj⟩ | exact ⟨_, rfl, hj⟩
            | 52, ho =>
              cases ho
              intro V aa wx hV hdep hval hj hsm hr
              have e118 : aa.tmps.getD 118 undef = .pointer (some (a.add (i * 18))) := hr 118 (by decide) (by apply Array.mem_toList_iff.1; repeat (first | exact List.Mem.head _ | apply List.Mem.tail))
              rw [Array.getD_eq_getD_getElem?] at e118
              unfold Oper.wp
              simp only [execOp, Act.eval, Array.getD_eq_getD_getElem?, e118]
              go_simp
              first | exact ⟨_, rfl, rfl, Below.refl _ _⟩ | exact ⟨_, rfl, rfl, Below.refl _ _, hj⟩ | exact ⟨_, rfl, Below.refl _ _, hj⟩ | exact ⟨_, rfl, hj⟩
            | 53, ho =>
              cases ho
              intro V aa wx hV hdep hval hj hsm hr
              have e119 : aa.tmps.getD 119 undef = .pointer (some ⟨(a.add (i * 18)).block, (a.add (i * 18)).off + 1, none⟩) := hr 119 (by decide) (by apply Array.mem_toList_iff.1; repeat (first | exact List.Mem.head _ | apply List.Mem.tail))
              have hx := HAX.out wx hj
              have x0 : wx.cell? ⟨(a.add (i * 18)).block, (a.add (i * 18)).off + 1, none⟩ = some (.string xk) := hx 1 _ (by decide) rfl
              have x1 : wx.cell? ⟨(a.add (i * 18)).block, (a.add (i * 18)).off + 2, none⟩ = some (.int .i64 xf) := hx 2 _ (by decide) rfl
              have x2 : wx.cell? ⟨(a.add (i * 18)).block, (a.add (i * 18)).off + 3, none⟩ = some (.int .i64 xt) := hx 3 _ (by decide) rfl
              have x3 : wx.cell? ⟨(a.add (i * 18)).block, (a.add (i * 18)).off + 4, none⟩ = some (.int .i64 xc) := hx 4 _ (by decide) rfl
              have x4 : wx.cell? ⟨(a.add (i * 18)).block, (a.add (i * 18)).off + 5, none⟩ = some (.int .i64 xg) := hx 5 _ (by decide) rfl
              have x5 : wx.cell? ⟨(a.add (i * 18)).block, (a.add (i * 18)).off + 6, none⟩ = some (.int .i64 xv) := hx 6 _ (by decide) rfl
              have x6 : wx.cell? ⟨(a.add (i * 18)).block, (a.add (i * 18)).off + 7, none⟩ = some (.int .i64 xz) := hx 7 _ (by decide) rfl
              have x7 : wx.cell? ⟨(a.add (i * 18)).block, (a.add (i * 18)).off + 8, none⟩ = some (.bool xb) := hx 8 _ (by decide) rfl
              clear hx
              rw [Array.getD_eq_getD_getElem?] at e119
              unfold Oper.wp
              simp only [execOp, Act.eval, Array.getD_eq_getD_getElem?, e119]
              go_simp
              first | exact ⟨_, rfl, rfl, Below.refl _ _⟩ | exact ⟨_, rfl, rfl, Below.refl _ _, hj⟩ | exact ⟨_, rfl, Below.refl _ _, hj⟩ | exact ⟨_, rfl, hj⟩
            | 54, ho =>
              cases ho
              intro V aa wx hV hdep hval hj hsm hr
              have e115 : aa.tmps.getD 115 undef = .agg #[.string yk, .int .i64 yr, .int .i64 yc, .int .i64 yp, .int .i64 yt, .int .i64 yq, .bool yd, .int .i64 yf, .int .i64 ys] := hr 115 (by decide) (by apply Array.mem_toList_iff.1; repeat (first | exact List.Mem.head _ | apply List.Mem.tail))
              have e120 : aa.tmps.getD 120 undef = .agg #[.string xk, .int .i64 xf, .int .i64 xt, .int .i64 xc, .int .i64 xg, .int .i64 xv, .int .i64 xz, .bool xb] := hr 120 (by decide) (by apply Array.mem_toList_iff.1; repeat (first | exact List.Mem.head _ | apply List.Mem.tail))
              rw [Array.getD_eq_getD_getElem?] at e115
              rw [Array.getD_eq_getD_getElem?] at e120
              unfold Oper.wp
              simp only [execOp, Act.eval, Array.getD_eq_getD_getElem?, e115, e120]
              go_simp
              refine (HFB.out wx).mono ?_
              rintro e w' ⟨rfl, hb⟩
              exact ⟨_, rfl, rfl, hb, hj.trans (hb.mono hj.size)⟩
            | 55, ho =>
              cases ho
              intro V aa wx hV hdep hval hj hsm hr
              have e114 : aa.tmps.getD 114 undef = .bool bf := hr 114 (by decide) (by apply Array.mem_toList_iff.1; repeat (first | exact List.Mem.head _ | apply List.Mem.tail))
              have e121 : aa.tmps.getD 121 undef = .bool bf := hr 121 (by decide) (by apply Array.mem_toList_iff.1; repeat (first | exact List.Mem.head _ | apply List.Mem.tail))
              have s1 : (bf == bf) = true := by simp
              rw [Array.getD_eq_getD_getElem?] at e114
              rw [Array.getD_eq_getD_getElem?] at e121
              unfold Oper.wp
              simp only [execOp, Act.eval, Array.getD_eq_getD_getElem?, e114, e121]
              go_simp
              first | exact ⟨_, rfl, rfl, Below.refl _ _⟩ | exact ⟨_, rfl, rfl, Below.refl _ _, hj⟩ | exact ⟨_, rfl, Below.refl _ _, hj⟩ | exact ⟨_, rfl, hj⟩
            | 56, ho =>
              cases ho
              intro V aa wx hV hdep hval hj hsm hr
              have e107 : aa.tmps.getD 107 undef = .bool false := hr 107 (by decide) (by apply Array.mem_toList_iff.1; repeat (first | exact List.Mem.head _ | apply List.Mem.tail))
              have e122 : aa.tmps.getD 122 undef = .bool false := hr 122 (by decide) (by apply Array.mem_toList_iff.1; repeat (first | exact List.Mem.head _ | apply List.Mem.tail))
              rw [Array.getD_eq_getD_getElem?] at e107
              rw [Array.getD_eq_getD_getElem?] at e122
              unfold Oper.wp
              simp only [execOp, Act.eval, Array.getD_eq_getD_getElem?, e107, e122]
              go_simp
              first | exact ⟨_, rfl, rfl, Below.refl _ _⟩ | exact ⟨_, rfl, rfl, Below.refl _ _, hj⟩ | exact ⟨_, rfl, Below.refl _ _, hj⟩ | exact ⟨_, rfl, hj⟩
            | _ + 57, ho => cases ho
          case fin =>
            intro hh V w8 hV hj hr
            have e123 : hh 123 = .bool false := hr 123 (by decide)
            have HPZ := hide (HP7.out.below hj).drop
            clear hV hr hj
            simp only [putAll, slotsOf, List.filterMap_cons, List.filterMap_nil, List.foldl_cons, List.foldl_nil, Act.put, e123]
            simp only [List.setIfInBounds_toArray, List.set_cons_succ, List.set_cons_zero]
            go_wp2_with fail
            go_roundw
            case rel => exact ⟨i + 1, rl', l', q', p', rq', d', HLT.out, by go_num, HFL1, HPZ⟩
            case measure => have := HLT.out; simp [RowKit.intOf] <;> omega
end Go.Proofs.Ytonmojinijpneaa.PostedPlaysW
