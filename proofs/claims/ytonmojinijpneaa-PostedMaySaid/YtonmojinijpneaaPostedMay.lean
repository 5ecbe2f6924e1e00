/- The walk of the statement PostedMay: of any acts and any receive; without conditions. -/
import Derived.Test.YtonmojinijpneaaRows
import Derived.Test.YtonmojinijpneaaPoDy
import Derived.Test.YtonmojinijpneaaPoDz
namespace Go.Proofs.Ytonmojinijpneaa.PostedMayW
open Go Go.Joins Go.ChangeShapes Go.WideShapes Go.RowKit Go.Deep Go.Lib Go.Proofs.Ytonmojinijpneaa Go.Proofs.Ytonmojinijpneaa.Po Go.Proofs.Ytonmojinijpneaa.Qu
set_option linter.unusedVariables false
set_option linter.unusedSimpArgs false
set_option maxRecDepth 100000 in
set_option maxHeartbeats 16000000 in
theorem walk {H : Type} {enc : TypeId × Value → H} {base : Nat} (W : World) (v0 : Value) (d0 : DataW H) (p0 : List MemPlace) (o0 : Value.okWide Try.prog W .any base 22 v0) (r0 : DataW.Trod enc Try.prog W 0 (fun _ => true) true 22 v0 d0 p0) (v1 : Value) (d1 : DataW H) (p1 : List MemPlace) (o1 : Value.okWide Try.prog W .any base 35 v1) (r1 : DataW.Trod enc Try.prog W 0 (fun _ => true) true 35 v1 d1 p1) :
    Calls Try.prog 4 #[v0, v1] W fun e w' => e = .returned (.bool true) ∧ Below W.heap.size W w' := by
  obtain ⟨A, n, cap, F, rfl, hnm, hF⟩ := Po.acts_of o0 r0
  obtain ⟨key, rk, ca, pe, tg, rq1, dn, fr, sq, rfl⟩ := rec_of o1 r1
  have b1 := (Below.refl W.heap.size W).alloc (Nat.le_refl _) (.cells #[.string key, .int .i64 rk, .int .i64 ca, .int .i64 pe, .int .i64 tg, .int .i64 rq1, .bool dn, .int .i64 fr, .int .i64 sq] 35)
  have kx := Blk.new W 35 #[.string key, .int .i64 rk, .int .i64 ca, .int .i64 pe, .int .i64 tg, .int .i64 rq1, .bool dn, .int .i64 fr, .int .i64 sq]
  obtain ⟨wA, hwA⟩ : ∃ z, W.alloc (.cells #[.string key, .int .i64 rk, .int .i64 ca, .int .i64 pe, .int .i64 tg, .int .i64 rq1, .bool dn, .int .i64 fr, .int .i64 sq] 35) = z := ⟨_, rfl⟩
  obtain ⟨X, hX⟩ : ∃ z, W.heap.size = z := ⟨_, rfl⟩
  rw [hwA] at b1 kx
  rw [hX] at kx
  have HF := hide (hF.below b1)
  have BA := hide b1
  have KX := hide kx
  have HWA := hide hwA
  have HX := hide hX
  have GC := hide (Po.Great_c cap HF.out)
  have BC := hide (begin_c wA)
  clear o0 r0 o1 r1 hF hnm b1 kx hwA hX
  go_enter Try.func4, Try.ntmps4
  go_upto_region 1 with (fail)
  rw [HWA.out, HX.out]
  have x0 : wA.cell? ⟨X, 0, none⟩ = some (.string key) := KX.out.cell 0
  go_wp2_with fail
  refine GC.out.mono ?_
  rintro e wB2 ⟨rfl, hw2⟩
  obtain rfl : wA = wB2 := hw2
  obtain ⟨b, hb⟩ : ∃ z, Po.grt n F = z := ⟨_, rfl⟩
  rw [hb]
  cases b with
  | true =>
    clear hb
    go_wp2_with fail
    go_ret
    exact ⟨rfl, BA.out⟩
  | false =>
    by_cases hks : 100 < key.size
    · have hksI : (100 : Int) < (key.size : Int) := by omega
      clear hb
      go_wp2_with fail
      go_ret
      exact ⟨rfl, BA.out⟩
    have hksI : ¬ (100 : Int) < (key.size : Int) := by omega
    have HNL := hide (grt_small hb)
    clear hb GC
    go_wp2_with fail
    refine BC.out.mono ?_
    rintro e wB ⟨Y, q0, p0, rq0, d0, rfl, hp, hY⟩
    have HP0 := hide hp
    have HY := hide hY
    have y0 : wB.cell? ⟨Y, 0, none⟩ = some (.pointer (some ⟨q0, 0, none⟩)) := hp.blk.cell 0
    have y1 : wB.cell? ⟨Y, 1, none⟩ = some (.pointer (some ⟨p0, 0, none⟩)) := hp.blk.cell 1
    clear hp hY BC x0
    go_wp2_with fail
    clear y0 y1
    go_loopw [6] (fun v6 wr => ∃ (i : Nat) (rl : List Rc) (l : List Msg) (q p rq d : Nat), i ≤ n ∧ v6 = .int .i64 i ∧ Hid (Fine rl l ∧ rl.length ≤ i ∧ l.length ≤ i) ∧ Hid (PLP wA Y q p rq d rl l wr)) (fun v6 _ => n - (RowKit.intOf v6).toNat)
    case atStart => exact ⟨0, [], [], q0, p0, rq0, d0, Nat.zero_le _, rfl, hide ⟨fine_nil, Nat.le_refl _, Nat.le_refl _⟩, HP0⟩
    case round =>
      obtain ⟨i, rl, l, q, p, rq, d, hi, rfl, HFL, HP⟩ := hrel
      rename World => wr
      clear HP0
      have hn1 := HNL.out
      by_cases hlt : i < n
      · have hltI : (i : Int) < (n : Int) := by omega
        obtain ⟨a, rfl, k0, k1, hc⟩ := (HF.out.below HP.out.be).load hlt
        obtain ⟨x, hx⟩ : ∃ z, F i = z := ⟨_, rfl⟩
        rw [hx] at k0 k1 hc
        obtain ⟨kd, ⟨xk, xf, xt, xc, xg, xv, xz, xb⟩, ⟨yk, yr, yc, yp, yt, yq, yd, yf, ys⟩⟩ := x
        simp only at k0 k1
        have HC := hide (show ∀ j v, (#[.int .u8 kd, .string xk, .int .i64 xf, .int .i64 xt, .int .i64 xc, .int .i64 xg, .int .i64 xv, .int .i64 xz, .bool xb, .string yk, .int .i64 yr, .int .i64 yc, .int .i64 yp, .int .i64 yt, .int .i64 yq, .bool yd, .int .i64 yf, .int .i64 ys] : Array Value).toList[j]? = some v → wr.cell? ((a.add (i * 18)).add j) = some v from hc)
        have DC := hide (does_c (n := i) left_said HFL.out.1 HFL.out.2 (by omega) kd k0 xk xf xt xc xg xv xz xb yk yr yc yp yt yq yd yf ys HY.out (HP.out.box _))
        have HLT := hide hlt
        clear hlt hx k0 k1 hc
        go_wp2_with (refine wpList_load_cells rfl 37 _ rfl (a.add (i * 18)) rfl _ _ HC.out Try.underlying37 rfl act_size ?_)
        refine DC.out.mono ?_
        rintro e w5 ⟨rfl, rl', l', hfl, q', p', rq', d', hbx⟩
        have HP1 := hide hbx.play
        have HFL1 := hide hfl
        clear hfl hbx DC HC
        go_wp2_with fail
        go_roundw
        case rel => exact ⟨i + 1, rl', l', q', p', rq', d', HLT.out, by go_num, HFL1, HP1⟩
        case measure => have := HLT.out; simp [RowKit.intOf] <;> omega
      have hltI : ¬ (i : Int) < (n : Int) := by omega
      have HLR := hide (show rl.length ≤ 1000 ∧ l.length ≤ 1000 by have := HFL.out.2; omega)
      obtain ⟨N, hN⟩ : ∃ z, rl.length = z := ⟨_, rfl⟩
      have HN := hide hN
      clear hlt hN
      go_wp2_with fail
      go_loopw [7] (fun v7 wz => ∃ j : Nat, j ≤ N ∧ v7 = .int .i64 j ∧ Hid (Below wr.heap.size wr wz)) (fun v7 _ => N - (RowKit.intOf v7).toNat)
      case atStart => exact ⟨0, Nat.zero_le _, rfl, hide (Below.refl _ _)⟩
      case round =>
        obtain ⟨j, hj, rfl, HBZ⟩ := hrel
        rename World => wz
        have HPZ := hide (HP.out.below HBZ.out)
        obtain ⟨AA, cc, c0, hrr, hcc⟩ := HPZ.out.all
        have y3 : wz.cell? ⟨Y, 3, none⟩ = some (.pointer (some ⟨d, 0, none⟩)) := HPZ.out.blk.cell 3
        rw [HN.out] at c0 hcc
        have hnl := HLR.out.1
        rw [HN.out] at hnl
        have HRR := hide hrr
        clear hrr
        by_cases hltj : j < N
        rotate_left
        · have hltjI : ¬ (j : Int) < (N : Int) := by omega
          clear hltj
          have KXZ := hide (KX.out.below HPZ.out.be KX.out.lt)
          have HBW := hide (BA.out.trans (HPZ.out.be.mono BA.out.size))
          have hm64 := Po.free_len l ⟨key, rk, ca, pe, tg, rq1, dn, fr, sq⟩ (rowL (lsOf rl) rk)
          obtain ⟨fl, hfl⟩ : ∃ z, freeL l ⟨key, rk, ca, pe, tg, rq1, dn, fr, sq⟩ (rowL (lsOf rl) rk) = z := ⟨_, rfl⟩
          rw [hfl] at hm64
          obtain ⟨nf, hnf⟩ : ∃ z, fl.length = z := ⟨_, rfl⟩
          rw [hnf] at hm64
          have HNF := hide (And.intro hnf hm64)
          have HPA := hide (fun wx (hb : Below wz.heap.size wz wx) => show Calls Try.prog 25 #[.pointer (some ⟨p, 0, none⟩), .pointer (some ⟨q, 0, none⟩), .agg #[.string key, .int .i64 rk, .int .i64 ca, .int .i64 pe, .int .i64 tg, .int .i64 rq1, .bool dn, .int .i64 fr, .int .i64 sq]] wx fun e w' => ∃ A1 c1, e = .returned (.slice A1 nf c1) ∧ MRow w' A1 fl ∧ Below wx.heap.size wx w' from by
            have h := (HPZ.out.below hb).probe HLR.out.1 HLR.out.2 key rk ca pe tg rq1 dn fr sq
            unfold Said at h
            rw [hfl, hnf] at h
            exact h)
          have HPD := hide (fun wx (hb : Below wz.heap.size wz wx) => show Calls Try.prog 26 #[.pointer (some ⟨d, 0, none⟩), .pointer (some ⟨rq, 0, none⟩), .agg #[.string key, .int .i64 rk, .int .i64 ca, .int .i64 pe, .int .i64 tg, .int .i64 rq1, .bool dn, .int .i64 fr, .int .i64 sq]] wx fun e w' => ∃ A1 c1, e = .returned (.slice A1 nf c1) ∧ MRow w' A1 fl ∧ Below wx.heap.size wx w' from by
            have h := (HPZ.out.below hb).probeD HFL.out.1 HLR.out.1 HLR.out.2 key rk ca pe tg rq1 dn fr sq
            unfold Said at h
            rw [hfl, hnf] at h
            exact h)
          have HMN := hide (fun wx (hb : Below wz.heap.size wz wx) => show Calls Try.prog 23 #[.pointer (some ⟨p, 0, none⟩), .pointer (some ⟨q, 0, none⟩), .int .i64 rk, .int .i64 (-1)] wx fun e w' => ∃ A1 c1, e = .returned (.slice A1 0 c1) ∧ MRow w' A1 [] ∧ Below wx.heap.size wx w' from by
            have h := (HPZ.out.below hb).may HFL.out.1 HLR.out.1 HLR.out.2 rk (-1)
            unfold Said at h
            rw [mayD_neg HFL.out.1.ok, List.length_nil] at h
            exact h)
          clear hfl hnf hm64
          go_upto_region 16 with (fail)
          clear y3 c0
          let R : Nat → Value → World → Prop := fun sl u w1 => match sl with
            | 4 => u = .bool true
            | 92 => u = .pointer (some ⟨Y, 0, none⟩)
            | 93 => u = .pointer (some ⟨Y, 0, none⟩)
            | 94 => u = .pointer (some ⟨Y, 1, none⟩)
            | 95 => u = .pointer (some ⟨p, 0, none⟩)
            | 96 => u = .pointer (some ⟨Y, 0, none⟩)
            | 97 => u = .pointer (some ⟨Y, 0, none⟩)
            | 98 => u = .pointer (some ⟨Y, 0, none⟩)
            | 99 => u = .pointer (some ⟨q, 0, none⟩)
            | 100 => u = .agg #[.string key, .int .i64 rk, .int .i64 ca, .int .i64 pe, .int .i64 tg, .int .i64 rq1, .bool dn, .int .i64 fr, .int .i64 sq]
            | 101 => ∃ A1 c1, u = .slice A1 nf c1 ∧ MRow w1 A1 fl
            | 102 => u = .pointer (some ⟨Y, 0, none⟩)
            | 103 => u = .pointer (some ⟨Y, 0, none⟩)
            | 104 => u = .pointer (some ⟨Y, 3, none⟩)
            | 105 => u = .pointer (some ⟨d, 0, none⟩)
            | 106 => u = .pointer (some ⟨Y, 0, none⟩)
            | 107 => u = .pointer (some ⟨Y, 0, none⟩)
            | 108 => u = .pointer (some ⟨Y, 2, none⟩)
            | 109 => u = .pointer (some ⟨rq, 0, none⟩)
            | 110 => u = .agg #[.string key, .int .i64 rk, .int .i64 ca, .int .i64 pe, .int .i64 tg, .int .i64 rq1, .bool dn, .int .i64 fr, .int .i64 sq]
            | 111 => ∃ A1 c1, u = .slice A1 nf c1 ∧ MRow w1 A1 fl
            | 112 => u = .bool true
            | 113 => u = .bool true
            | 114 => u = .pointer (some ⟨Y, 0, none⟩)
            | 115 => u = .pointer (some ⟨Y, 0, none⟩)
            | 116 => u = .pointer (some ⟨Y, 1, none⟩)
            | 117 => u = .pointer (some ⟨p, 0, none⟩)
            | 118 => u = .pointer (some ⟨Y, 0, none⟩)
            | 119 => u = .pointer (some ⟨Y, 0, none⟩)
            | 120 => u = .pointer (some ⟨Y, 0, none⟩)
            | 121 => u = .pointer (some ⟨q, 0, none⟩)
            | 122 => u = .pointer (some ⟨X, 1, none⟩)
            | 123 => u = .int .i64 rk
            | 124 => ∃ A1 c1, u = .slice A1 0 c1
            | 125 => u = .int .i64 0
            | 126 => u = .bool true
            | 127 => u = .bool true
            | _ => True
          refine wp_region_relGW [(113, true)] R (fun a b => Below a.heap.size a b) (fun _ w => Below wz.heap.size wz w) (by kernel_rfl) (by kernel_rfl) (by kernel_rfl) (by kernel_rfl) ?mono (fun w => Below.refl _ _) ((Below.refl _ _).drew) ?gs ?step ?fin
          case mono =>
            intro sl u wx wy h hk
            match sl with
            | 101 =>
              obtain ⟨A1, c1, h1, h2⟩ := h
              exact ⟨A1, c1, h1, h2.below hk⟩
            | 111 =>
              obtain ⟨A1, c1, h1, h2⟩ := h
              exact ⟨A1, c1, h1, h2.below hk⟩
            | 124 =>
              exact h
            | 0 | 1 | 2 | 3 | 4 | 5 | 6 | 7 | 8 | 9 | 10 | 11 | 12 | 13 | 14 | 15 | 16 | 17 | 18 | 19 | 20 | 21 | 22 | 23 | 24 | 25 | 26 | 27 | 28 | 29 | 30 | 31 | 32 | 33 | 34 | 35 | 36 | 37 | 38 | 39 | 40 | 41 | 42 | 43 | 44 | 45 | 46 | 47 | 48 | 49 | 50 | 51 | 52 | 53 | 54 | 55 | 56 | 57 | 58 | 59 | 60 | 61 | 62 | 63 | 64 | 65 | 66 | 67 | 68 | 69 | 70 | 71 | 72 | 73 | 74 | 75 | 76 | 77 | 78 | 79 | 80 | 81 | 82 | 83 | 84 | 85 | 86 | 87 | 88 | 89 | 90 | 91 | 92 | 93 | 94 | 95 | 96 | 97 | 98 | 99 | 100 | 102 | 103 | 104 | 105 | 106 | 107 | 108 | 109 | 110 | 112 | 113 | 114 | 115 | 116 | 117 | 118 | 119 | 120 | 121 | 122 | 123 | 125 | 126 | 127 | _ + 128 => exact h
          case gs =>
            intro p hp u w1 h
            simp only [List.mem_cons, List.not_mem_nil, or_false] at hp
            rcases hp with rfl <;> exact h
          case step =>
            intro j o ho
            match j, ho with
            | 0, ho =>
              cases ho
              intro V aa wx hV hdep hval hj hsm hr
              have e5 : aa.tmps.getD 5 undef = .pointer (some ⟨Y, 0, none⟩) := hsm 5 (by decide)
              rw [Array.getD_eq_getD_getElem?] at e5
              unfold Oper.wp
              simp only [execOp, Act.eval, Array.getD_eq_getD_getElem?, e5]
              go_simp
              first | exact ⟨_, rfl, rfl, Below.refl _ _⟩ | exact ⟨_, rfl, rfl, Below.refl _ _, hj⟩ | exact ⟨_, rfl, Below.refl _ _, hj⟩ | exact ⟨_, rfl, hj⟩
            | 1, ho =>
              cases ho
              intro V aa wx hV hdep hval hj hsm hr
              have e92 : aa.tmps.getD 92 undef = .pointer (some ⟨Y, 0, none⟩) := hr 92 (by decide) (by apply Array.mem_toList_iff.1; repeat (first | exact List.Mem.head _ | apply List.Mem.tail))
              rw [Array.getD_eq_getD_getElem?] at e92
              unfold Oper.wp
              simp only [execOp, Act.eval, Array.getD_eq_getD_getElem?, e92]
              go_simp
              first | exact ⟨_, rfl, rfl, Below.refl _ _⟩ | exact ⟨_, rfl, rfl, Below.refl _ _, hj⟩ | exact ⟨_, rfl, Below.refl _ _, hj⟩ | exact ⟨_, rfl, hj⟩
            | 2, ho =>
              cases ho
              intro V aa wx hV hdep hval hj hsm hr
              have e93 : aa.tmps.getD 93 undef = .pointer (some ⟨Y, 0, none⟩) := hr 93 (by decide) (by apply Array.mem_toList_iff.1; repeat (first | exact List.Mem.head _ | apply List.Mem.tail))
              rw [Array.getD_eq_getD_getElem?] at e93
              unfold Oper.wp
              simp only [execOp, Act.eval, Array.getD_eq_getD_getElem?, e93]
              go_simp
              first | exact ⟨_, rfl, rfl, Below.refl _ _⟩ | exact ⟨_, rfl, rfl, Below.refl _ _, hj⟩ | exact ⟨_, rfl, Below.refl _ _, hj⟩ | exact ⟨_, rfl, hj⟩
            | 3, ho =>
              cases ho
              intro V aa wx hV hdep hval hj hsm hr
              have e94 : aa.tmps.getD 94 undef = .pointer (some ⟨Y, 1, none⟩) := hr 94 (by decide) (by apply Array.mem_toList_iff.1; repeat (first | exact List.Mem.head _ | apply List.Mem.tail))
              have hk := (HPZ.out.below hj).blk
              have x1 : wx.cell? ⟨Y, 1, none⟩ = some (.pointer (some ⟨p, 0, none⟩)) := hk.cell 1
              rw [Array.getD_eq_getD_getElem?] at e94
              unfold Oper.wp
              simp only [execOp, Act.eval, Array.getD_eq_getD_getElem?, e94]
              go_simp
              first | exact ⟨_, rfl, rfl, Below.refl _ _⟩ | exact ⟨_, rfl, rfl, Below.refl _ _, hj⟩ | exact ⟨_, rfl, Below.refl _ _, hj⟩ | exact ⟨_, rfl, hj⟩
            | 4, ho =>
              cases ho
              intro V aa wx hV hdep hval hj hsm hr
              have e5 : aa.tmps.getD 5 undef = .pointer (some ⟨Y, 0, none⟩) := hsm 5 (by decide)
              rw [Array.getD_eq_getD_getElem?] at e5
              unfold Oper.wp
              simp only [execOp, Act.eval, Array.getD_eq_getD_getElem?, e5]
              go_simp
              first | exact ⟨_, rfl, rfl, Below.refl _ _⟩ | exact ⟨_, rfl, rfl, Below.refl _ _, hj⟩ | exact ⟨_, rfl, Below.refl _ _, hj⟩ | exact ⟨_, rfl, hj⟩
            | 5, ho =>
              cases ho
              intro V aa wx hV hdep hval hj hsm hr
              have e96 : aa.tmps.getD 96 undef = .pointer (some ⟨Y, 0, none⟩) := hr 96 (by decide) (by apply Array.mem_toList_iff.1; repeat (first | exact List.Mem.head _ | apply List.Mem.tail))
              rw [Array.getD_eq_getD_getElem?] at e96
              unfold Oper.wp
              simp only [execOp, Act.eval, Array.getD_eq_getD_getElem?, e96]
              go_simp
              first | exact ⟨_, rfl, rfl, Below.refl _ _⟩ | exact ⟨_, rfl, rfl, Below.refl _ _, hj⟩ | exact ⟨_, rfl, Below.refl _ _, hj⟩ | exact ⟨_, rfl, hj⟩
            | 6, ho =>
              cases ho
              intro V aa wx hV hdep hval hj hsm hr
              have e97 : aa.tmps.getD 97 undef = .pointer (some ⟨Y, 0, none⟩) := hr 97 (by decide) (by apply Array.mem_toList_iff.1; repeat (first | exact List.Mem.head _ | apply List.Mem.tail))
              rw [Array.getD_eq_getD_getElem?] at e97
              unfold Oper.wp
              simp only [execOp, Act.eval, Array.getD_eq_getD_getElem?, e97]
              go_simp
              first | exact ⟨_, rfl, rfl, Below.refl _ _⟩ | exact ⟨_, rfl, rfl, Below.refl _ _, hj⟩ | exact ⟨_, rfl, Below.refl _ _, hj⟩ | exact ⟨_, rfl, hj⟩
            | 7, ho =>
              cases ho
              intro V aa wx hV hdep hval hj hsm hr
              have e98 : aa.tmps.getD 98 undef = .pointer (some ⟨Y, 0, none⟩) := hr 98 (by decide) (by apply Array.mem_toList_iff.1; repeat (first | exact List.Mem.head _ | apply List.Mem.tail))
              have hk := (HPZ.out.below hj).blk
              have x0 : wx.cell? ⟨Y, 0, none⟩ = some (.pointer (some ⟨q, 0, none⟩)) := hk.cell 0
              rw [Array.getD_eq_getD_getElem?] at e98
              unfold Oper.wp
              simp only [execOp, Act.eval, Array.getD_eq_getD_getElem?, e98]
              go_simp
              first | exact ⟨_, rfl, rfl, Below.refl _ _⟩ | exact ⟨_, rfl, rfl, Below.refl _ _, hj⟩ | exact ⟨_, rfl, Below.refl _ _, hj⟩ | exact ⟨_, rfl, hj⟩
            | 8, ho =>
              cases ho
              intro V aa wx hV hdep hval hj hsm hr
              have e3 : aa.tmps.getD 3 undef = .pointer (some ⟨X, 0, none⟩) := hsm 3 (by decide)
              have hk := KXZ.out.below hj KXZ.out.lt
              have x0 : wx.cell? ⟨X, 0, none⟩ = some (.string key) := hk.cell 0
              have x1 : wx.cell? ⟨X, 1, none⟩ = some (.int .i64 rk) := hk.cell 1
              have x2 : wx.cell? ⟨X, 2, none⟩ = some (.int .i64 ca) := hk.cell 2
              have x3 : wx.cell? ⟨X, 3, none⟩ = some (.int .i64 pe) := hk.cell 3
              have x4 : wx.cell? ⟨X, 4, none⟩ = some (.int .i64 tg) := hk.cell 4
              have x5 : wx.cell? ⟨X, 5, none⟩ = some (.int .i64 rq1) := hk.cell 5
              have x6 : wx.cell? ⟨X, 6, none⟩ = some (.bool dn) := hk.cell 6
              have x7 : wx.cell? ⟨X, 7, none⟩ = some (.int .i64 fr) := hk.cell 7
              have x8 : wx.cell? ⟨X, 8, none⟩ = some (.int .i64 sq) := hk.cell 8
              rw [Array.getD_eq_getD_getElem?] at e3
              unfold Oper.wp
              simp only [execOp, Act.eval, Array.getD_eq_getD_getElem?, e3]
              go_simp
              first | exact ⟨_, rfl, rfl, Below.refl _ _⟩ | exact ⟨_, rfl, rfl, Below.refl _ _, hj⟩ | exact ⟨_, rfl, Below.refl _ _, hj⟩ | exact ⟨_, rfl, hj⟩
            | 9, ho =>
              cases ho
              intro V aa wx hV hdep hval hj hsm hr
              have e95 : aa.tmps.getD 95 undef = .pointer (some ⟨p, 0, none⟩) := hr 95 (by decide) (by apply Array.mem_toList_iff.1; repeat (first | exact List.Mem.head _ | apply List.Mem.tail))
              have e99 : aa.tmps.getD 99 undef = .pointer (some ⟨q, 0, none⟩) := hr 99 (by decide) (by apply Array.mem_toList_iff.1; repeat (first | exact List.Mem.head _ | apply List.Mem.tail))
              have e100 : aa.tmps.getD 100 undef = .agg #[.string key, .int .i64 rk, .int .i64 ca, .int .i64 pe, .int .i64 tg, .int .i64 rq1, .bool dn, .int .i64 fr, .int .i64 sq] := hr 100 (by decide) (by apply Array.mem_toList_iff.1; repeat (first | exact List.Mem.head _ | apply List.Mem.tail))
              rw [Array.getD_eq_getD_getElem?] at e95
              rw [Array.getD_eq_getD_getElem?] at e99
              rw [Array.getD_eq_getD_getElem?] at e100
              unfold Oper.wp
              simp only [execOp, Act.eval, Array.getD_eq_getD_getElem?, e95, e99, e100]
              go_simp
              refine (HPA.out wx hj).mono ?_
              rintro e w' ⟨A1, c1, rfl, hown, hb⟩
              exact ⟨_, rfl, ⟨A1, c1, rfl, hown⟩, hb, hj.trans (hb.mono hj.size)⟩
            | 10, ho =>
              cases ho
              intro V aa wx hV hdep hval hj hsm hr
              have e5 : aa.tmps.getD 5 undef = .pointer (some ⟨Y, 0, none⟩) := hsm 5 (by decide)
              rw [Array.getD_eq_getD_getElem?] at e5
              unfold Oper.wp
              simp only [execOp, Act.eval, Array.getD_eq_getD_getElem?, e5]
              go_simp
              first | exact ⟨_, rfl, rfl, Below.refl _ _⟩ | exact ⟨_, rfl, rfl, Below.refl _ _, hj⟩ | exact ⟨_, rfl, Below.refl _ _, hj⟩ | exact ⟨_, rfl, hj⟩
            | 11, ho =>
              cases ho
              intro V aa wx hV hdep hval hj hsm hr
              have e102 : aa.tmps.getD 102 undef = .pointer (some ⟨Y, 0, none⟩) := hr 102 (by decide) (by apply Array.mem_toList_iff.1; repeat (first | exact List.Mem.head _ | apply List.Mem.tail))
              rw [Array.getD_eq_getD_getElem?] at e102
              unfold Oper.wp
              simp only [execOp, Act.eval, Array.getD_eq_getD_getElem?, e102]
              go_simp
              first | exact ⟨_, rfl, rfl, Below.refl _ _⟩ | exact ⟨_, rfl, rfl, Below.refl _ _, hj⟩ | exact ⟨_, rfl, Below.refl _ _, hj⟩ | exact ⟨_, rfl, hj⟩
            | 12, ho =>
              cases ho
              intro V aa wx hV hdep hval hj hsm hr
              have e103 : aa.tmps.getD 103 undef = .pointer (some ⟨Y, 0, none⟩) := hr 103 (by decide) (by apply Array.mem_toList_iff.1; repeat (first | exact List.Mem.head _ | apply List.Mem.tail))
              rw [Array.getD_eq_getD_getElem?] at e103
              unfold Oper.wp
              simp only [execOp, Act.eval, Array.getD_eq_getD_getElem?, e103]
              go_simp
              first | exact ⟨_, rfl, rfl, Below.refl _ _⟩ | exact ⟨_, rfl, rfl, Below.refl _ _, hj⟩ | exact ⟨_, rfl, Below.refl _ _, hj⟩ | exact ⟨_, rfl, hj⟩
            | 13, ho =>
              cases ho
              intro V aa wx hV hdep hval hj hsm hr
              have e104 : aa.tmps.getD 104 undef = .pointer (some ⟨Y, 3, none⟩) := hr 104 (by decide) (by apply Array.mem_toList_iff.1; repeat (first | exact List.Mem.head _ | apply List.Mem.tail))
              have hk := (HPZ.out.below hj).blk
              have x3 : wx.cell? ⟨Y, 3, none⟩ = some (.pointer (some ⟨d, 0, none⟩)) := hk.cell 3
              rw [Array.getD_eq_getD_getElem?] at e104
              unfold Oper.wp
              simp only [execOp, Act.eval, Array.getD_eq_getD_getElem?, e104]
              go_simp
              first | exact ⟨_, rfl, rfl, Below.refl _ _⟩ | exact ⟨_, rfl, rfl, Below.refl _ _, hj⟩ | exact ⟨_, rfl, Below.refl _ _, hj⟩ | exact ⟨_, rfl, hj⟩
            | 14, ho =>
              cases ho
              intro V aa wx hV hdep hval hj hsm hr
              have e5 : aa.tmps.getD 5 undef = .pointer (some ⟨Y, 0, none⟩) := hsm 5 (by decide)
              rw [Array.getD_eq_getD_getElem?] at e5
              unfold Oper.wp
              simp only [execOp, Act.eval, Array.getD_eq_getD_getElem?, e5]
              go_simp
              first | exact ⟨_, rfl, rfl, Below.refl _ _⟩ | exact ⟨_, rfl, rfl, Below.refl _ _, hj⟩ | exact ⟨_, rfl, Below.refl _ _, hj⟩ | exact ⟨_, rfl, hj⟩
            | 15, ho =>
              cases ho
              intro V aa wx hV hdep hval hj hsm hr
              have e106 : aa.tmps.getD 106 undef = .pointer (some ⟨Y, 0, none⟩) := hr 106 (by decide) (by apply Array.mem_toList_iff.1; repeat (first | exact List.Mem.head _ | apply List.Mem.tail))
              rw [Array.getD_eq_getD_getElem?] at e106
              unfold Oper.wp
              simp only [execOp, Act.eval, Array.getD_eq_getD_getElem?, e106]
              go_simp
              first | exact ⟨_, rfl, rfl, Below.refl _ _⟩ | exact ⟨_, rfl, rfl, Below.refl _ _, hj⟩ | exact ⟨_, rfl, Below.refl _ _, hj⟩ | exact ⟨_, rfl, hj⟩
            | 16, ho =>
              cases ho
              intro V aa wx hV hdep hval hj hsm hr
              have e107 : aa.tmps.getD 107 undef = .pointer (some ⟨Y, 0, none⟩) := hr 107 (by decide) (by apply Array.mem_toList_iff.1; repeat (first | exact List.Mem.head _ | apply List.Mem.tail))
              rw [Array.getD_eq_getD_getElem?] at e107
              unfold Oper.wp
              simp only [execOp, Act.eval, Array.getD_eq_getD_getElem?, e107]
              go_simp
              first | exact ⟨_, rfl, rfl, Below.refl _ _⟩ | exact ⟨_, rfl, rfl, Below.refl _ _, hj⟩ | exact ⟨_, rfl, Below.refl _ _, hj⟩ | exact ⟨_, rfl, hj⟩
            | 17, ho =>
              cases ho
              intro V aa wx hV hdep hval hj hsm hr
              have e108 : aa.tmps.getD 108 undef = .pointer (some ⟨Y, 2, none⟩) := hr 108 (by decide) (by apply Array.mem_toList_iff.1; repeat (first | exact List.Mem.head _ | apply List.Mem.tail))
              have hk := (HPZ.out.below hj).blk
              have x2 : wx.cell? ⟨Y, 2, none⟩ = some (.pointer (some ⟨rq, 0, none⟩)) := hk.cell 2
              rw [Array.getD_eq_getD_getElem?] at e108
              unfold Oper.wp
              simp only [execOp, Act.eval, Array.getD_eq_getD_getElem?, e108]
              go_simp
              first | exact ⟨_, rfl, rfl, Below.refl _ _⟩ | exact ⟨_, rfl, rfl, Below.refl _ _, hj⟩ | exact ⟨_, rfl, Below.refl _ _, hj⟩ | exact ⟨_, rfl, hj⟩
            | 18, ho =>
              cases ho
              intro V aa wx hV hdep hval hj hsm hr
              have e3 : aa.tmps.getD 3 undef = .pointer (some ⟨X, 0, none⟩) := hsm 3 (by decide)
              have hk := KXZ.out.below hj KXZ.out.lt
              have x0 : wx.cell? ⟨X, 0, none⟩ = some (.string key) := hk.cell 0
              have x1 : wx.cell? ⟨X, 1, none⟩ = some (.int .i64 rk) := hk.cell 1
              have x2 : wx.cell? ⟨X, 2, none⟩ = some (.int .i64 ca) := hk.cell 2
              have x3 : wx.cell? ⟨X, 3, none⟩ = some (.int .i64 pe) := hk.cell 3
              have x4 : wx.cell? ⟨X, 4, none⟩ = some (.int .i64 tg) := hk.cell 4
              have x5 : wx.cell? ⟨X, 5, none⟩ = some (.int .i64 rq1) := hk.cell 5
              have x6 : wx.cell? ⟨X, 6, none⟩ = some (.bool dn) := hk.cell 6
              have x7 : wx.cell? ⟨X, 7, none⟩ = some (.int .i64 fr) := hk.cell 7
              have x8 : wx.cell? ⟨X, 8, none⟩ = some (.int .i64 sq) := hk.cell 8
              rw [Array.getD_eq_getD_getElem?] at e3
              unfold Oper.wp
              simp only [execOp, Act.eval, Array.getD_eq_getD_getElem?, e3]
              go_simp
              first | exact ⟨_, rfl, rfl, Below.refl _ _⟩ | exact ⟨_, rfl, rfl, Below.refl _ _, hj⟩ | exact ⟨_, rfl, Below.refl _ _, hj⟩ | exact ⟨_, rfl, hj⟩
            | 19, ho =>
              cases ho
              intro V aa wx hV hdep hval hj hsm hr
              have e105 : aa.tmps.getD 105 undef = .pointer (some ⟨d, 0, none⟩) := hr 105 (by decide) (by apply Array.mem_toList_iff.1; repeat (first | exact List.Mem.head _ | apply List.Mem.tail))
              have e109 : aa.tmps.getD 109 undef = .pointer (some ⟨rq, 0, none⟩) := hr 109 (by decide) (by apply Array.mem_toList_iff.1; repeat (first | exact List.Mem.head _ | apply List.Mem.tail))
              have e110 : aa.tmps.getD 110 undef = .agg #[.string key, .int .i64 rk, .int .i64 ca, .int .i64 pe, .int .i64 tg, .int .i64 rq1, .bool dn, .int .i64 fr, .int .i64 sq] := hr 110 (by decide) (by apply Array.mem_toList_iff.1; repeat (first | exact List.Mem.head _ | apply List.Mem.tail))
              rw [Array.getD_eq_getD_getElem?] at e105
              rw [Array.getD_eq_getD_getElem?] at e109
              rw [Array.getD_eq_getD_getElem?] at e110
              unfold Oper.wp
              simp only [execOp, Act.eval, Array.getD_eq_getD_getElem?, e105, e109, e110]
              go_simp
              refine (HPD.out wx hj).mono ?_
              rintro e w' ⟨A1, c1, rfl, hown, hb⟩
              exact ⟨_, rfl, ⟨A1, c1, rfl, hown⟩, hb, hj.trans (hb.mono hj.size)⟩
            | 20, ho =>
              cases ho
              intro V aa wx hV hdep hval hj hsm hr
              have r101 := hr 101 (by decide) (by apply Array.mem_toList_iff.1; repeat (first | exact List.Mem.head _ | apply List.Mem.tail))
              have r111 := hr 111 (by decide) (by apply Array.mem_toList_iff.1; repeat (first | exact List.Mem.head _ | apply List.Mem.tail))
              obtain ⟨A5, c5, e101, h5⟩ := r101
              have e101 : aa.tmps.getD 101 undef = .slice A5 nf c5 := e101
              obtain ⟨A8, c8, e111, h8⟩ := r111
              have e111 : aa.tmps.getD 111 undef = .slice A8 nf c8 := e111
              rw [Array.getD_eq_getD_getElem?] at e101
              rw [Array.getD_eq_getD_getElem?] at e111
              unfold Oper.wp
              simp only [execOp, Act.eval, Array.getD_eq_getD_getElem?, e101, e111]
              go_simp
              refine (Same_b A5 A8 c5 c8 nf fl h5 h8 HNF.out.1 (by have := HNF.out.2; omega)).mono ?_
              rintro e w' ⟨rfl, hb⟩
              exact ⟨_, rfl, rfl, hb, hj.trans (hb.mono hj.size)⟩
            | 21, ho =>
              cases ho
              intro V aa wx hV hdep hval hj hsm hr
              have e112 : aa.tmps.getD 112 undef = .bool true := hr 112 (by decide) (by apply Array.mem_toList_iff.1; repeat (first | exact List.Mem.head _ | apply List.Mem.tail))
              rw [Array.getD_eq_getD_getElem?] at e112
              unfold Oper.wp
              simp only [execOp, Act.eval, Array.getD_eq_getD_getElem?, e112]
              go_simp
              first | exact ⟨_, rfl, rfl, Below.refl _ _⟩ | exact ⟨_, rfl, rfl, Below.refl _ _, hj⟩ | exact ⟨_, rfl, Below.refl _ _, hj⟩ | exact ⟨_, rfl, hj⟩
            | 22, ho =>
              cases ho
              intro V aa wx hV hdep hval hj hsm hr
              have e5 : aa.tmps.getD 5 undef = .pointer (some ⟨Y, 0, none⟩) := hsm 5 (by decide)
              rw [Array.getD_eq_getD_getElem?] at e5
              unfold Oper.wp
              simp only [execOp, Act.eval, Array.getD_eq_getD_getElem?, e5]
              go_simp
              first | exact ⟨_, rfl, rfl, Below.refl _ _⟩ | exact ⟨_, rfl, rfl, Below.refl _ _, hj⟩ | exact ⟨_, rfl, Below.refl _ _, hj⟩ | exact ⟨_, rfl, hj⟩
            | 23, ho =>
              cases ho
              intro V aa wx hV hdep hval hj hsm hr
              have e114 : aa.tmps.getD 114 undef = .pointer (some ⟨Y, 0, none⟩) := hr 114 (by decide) (by apply Array.mem_toList_iff.1; repeat (first | exact List.Mem.head _ | apply List.Mem.tail))
              rw [Array.getD_eq_getD_getElem?] at e114
              unfold Oper.wp
              simp only [execOp, Act.eval, Array.getD_eq_getD_getElem?, e114]
              go_simp
              first | exact ⟨_, rfl, rfl, Below.refl _ _⟩ | exact ⟨_, rfl, rfl, Below.refl _ _, hj⟩ | exact ⟨_, rfl, Below.refl _ _, hj⟩ | exact ⟨_, rfl, hj⟩
            | 24, ho =>
              cases ho
              intro V aa wx hV hdep hval hj hsm hr
              have e115 : aa.tmps.getD 115 undef = .pointer (some ⟨Y, 0, none⟩) := hr 115 (by decide) (by apply Array.mem_toList_iff.1; repeat (first | exact List.Mem.head _ | apply List.Mem.tail))
              rw [Array.getD_eq_getD_getElem?] at e115
              unfold Oper.wp
              simp only [execOp, Act.eval, Array.getD_eq_getD_getElem?, e115]
              go_simp
              first | exact ⟨_, rfl, rfl, Below.refl _ _⟩ | exact ⟨_, rfl, rfl, Below.refl _ _, hj⟩ | exact ⟨_, rfl, Below.refl _ _, hj⟩ | exact ⟨_, rfl, hj⟩
            | 25, ho =>
              cases ho
              intro V aa wx hV hdep hval hj hsm hr
              have e116 : aa.tmps.getD 116 undef = .pointer (some ⟨Y, 1, none⟩) := hr 116 (by decide) (by apply Array.mem_toList_iff.1; repeat (first | exact List.Mem.head _ | apply List.Mem.tail))
              have hk := (HPZ.out.below hj).blk
              have x1 : wx.cell? ⟨Y, 1, none⟩ = some (.pointer (some ⟨p, 0, none⟩)) := hk.cell 1
              rw [Array.getD_eq_getD_getElem?] at e116
              unfold Oper.wp
              simp only [execOp, Act.eval, Array.getD_eq_getD_getElem?, e116]
              go_simp
              first | exact ⟨_, rfl, rfl, Below.refl _ _⟩ | exact ⟨_, rfl, rfl, Below.refl _ _, hj⟩ | exact ⟨_, rfl, Below.refl _ _, hj⟩ | exact ⟨_, rfl, hj⟩
            | 26, ho =>
              cases ho
              intro V aa wx hV hdep hval hj hsm hr
              have e5 : aa.tmps.getD 5 undef = .pointer (some ⟨Y, 0, none⟩) := hsm 5 (by decide)
              rw [Array.getD_eq_getD_getElem?] at e5
              unfold Oper.wp
              simp only [execOp, Act.eval, Array.getD_eq_getD_getElem?, e5]
              go_simp
              first | exact ⟨_, rfl, rfl, Below.refl _ _⟩ | exact ⟨_, rfl, rfl, Below.refl _ _, hj⟩ | exact ⟨_, rfl, Below.refl _ _, hj⟩ | exact ⟨_, rfl, hj⟩
            | 27, ho =>
              cases ho
              intro V aa wx hV hdep hval hj hsm hr
              have e118 : aa.tmps.getD 118 undef = .pointer (some ⟨Y, 0, none⟩) := hr 118 (by decide) (by apply Array.mem_toList_iff.1; repeat (first | exact List.Mem.head _ | apply List.Mem.tail))
              rw [Array.getD_eq_getD_getElem?] at e118
              unfold Oper.wp
              simp only [execOp, Act.eval, Array.getD_eq_getD_getElem?, e118]
              go_simp
              first | exact ⟨_, rfl, rfl, Below.refl _ _⟩ | exact ⟨_, rfl, rfl, Below.refl _ _, hj⟩ | exact ⟨_, rfl, Below.refl _ _, hj⟩ | exact ⟨_, rfl, hj⟩
            | 28, ho =>
              cases ho
              intro V aa wx hV hdep hval hj hsm hr
              have e119 : aa.tmps.getD 119 undef = .pointer (some ⟨Y, 0, none⟩) := hr 119 (by decide) (by apply Array.mem_toList_iff.1; repeat (first | exact List.Mem.head _ | apply List.Mem.tail))
              rw [Array.getD_eq_getD_getElem?] at e119
              unfold Oper.wp
              simp only [execOp, Act.eval, Array.getD_eq_getD_getElem?, e119]
              go_simp
              first | exact ⟨_, rfl, rfl, Below.refl _ _⟩ | exact ⟨_, rfl, rfl, Below.refl _ _, hj⟩ | exact ⟨_, rfl, Below.refl _ _, hj⟩ | exact ⟨_, rfl, hj⟩
            | 29, ho =>
              cases ho
              intro V aa wx hV hdep hval hj hsm hr
              have e120 : aa.tmps.getD 120 undef = .pointer (some ⟨Y, 0, none⟩) := hr 120 (by decide) (by apply Array.mem_toList_iff.1; repeat (first | exact List.Mem.head _ | apply List.Mem.tail))
              have hk := (HPZ.out.below hj).blk
              have x0 : wx.cell? ⟨Y, 0, none⟩ = some (.pointer (some ⟨q, 0, none⟩)) := hk.cell 0
              rw [Array.getD_eq_getD_getElem?] at e120
              unfold Oper.wp
              simp only [execOp, Act.eval, Array.getD_eq_getD_getElem?, e120]
              go_simp
              first | exact ⟨_, rfl, rfl, Below.refl _ _⟩ | exact ⟨_, rfl, rfl, Below.refl _ _, hj⟩ | exact ⟨_, rfl, Below.refl _ _, hj⟩ | exact ⟨_, rfl, hj⟩
            | 30, ho =>
              cases ho
              intro V aa wx hV hdep hval hj hsm hr
              have e3 : aa.tmps.getD 3 undef = .pointer (some ⟨X, 0, none⟩) := hsm 3 (by decide)
              rw [Array.getD_eq_getD_getElem?] at e3
              unfold Oper.wp
              simp only [execOp, Act.eval, Array.getD_eq_getD_getElem?, e3]
              go_simp
              first | exact ⟨_, rfl, rfl, Below.refl _ _⟩ | exact ⟨_, rfl, rfl, Below.refl _ _, hj⟩ | exact ⟨_, rfl, Below.refl _ _, hj⟩ | exact ⟨_, rfl, hj⟩
            | 31, ho =>
              cases ho
              intro V aa wx hV hdep hval hj hsm hr
              have e122 : aa.tmps.getD 122 undef = .pointer (some ⟨X, 1, none⟩) := hr 122 (by decide) (by apply Array.mem_toList_iff.1; repeat (first | exact List.Mem.head _ | apply List.Mem.tail))
              have hk := KXZ.out.below hj KXZ.out.lt
              have x1 : wx.cell? ⟨X, 1, none⟩ = some (.int .i64 rk) := hk.cell 1
              rw [Array.getD_eq_getD_getElem?] at e122
              unfold Oper.wp
              simp only [execOp, Act.eval, Array.getD_eq_getD_getElem?, e122]
              go_simp
              first | exact ⟨_, rfl, rfl, Below.refl _ _⟩ | exact ⟨_, rfl, rfl, Below.refl _ _, hj⟩ | exact ⟨_, rfl, Below.refl _ _, hj⟩ | exact ⟨_, rfl, hj⟩
            | 32, ho =>
              cases ho
              intro V aa wx hV hdep hval hj hsm hr
              have e117 : aa.tmps.getD 117 undef = .pointer (some ⟨p, 0, none⟩) := hr 117 (by decide) (by apply Array.mem_toList_iff.1; repeat (first | exact List.Mem.head _ | apply List.Mem.tail))
              have e121 : aa.tmps.getD 121 undef = .pointer (some ⟨q, 0, none⟩) := hr 121 (by decide) (by apply Array.mem_toList_iff.1; repeat (first | exact List.Mem.head _ | apply List.Mem.tail))
              have e123 : aa.tmps.getD 123 undef = .int .i64 rk := hr 123 (by decide) (by apply Array.mem_toList_iff.1; repeat (first | exact List.Mem.head _ | apply List.Mem.tail))
              rw [Array.getD_eq_getD_getElem?] at e117
              rw [Array.getD_eq_getD_getElem?] at e121
              rw [Array.getD_eq_getD_getElem?] at e123
              unfold Oper.wp
              simp only [execOp, Act.eval, Array.getD_eq_getD_getElem?, e117, e121, e123]
              go_simp
              refine (HMN.out wx hj).mono ?_
              rintro e w' ⟨A1, c1, rfl, hown, hb⟩
              exact ⟨_, rfl, ⟨A1, c1, rfl⟩, hb, hj.trans (hb.mono hj.size)⟩
            | 33, ho =>
              cases ho
              intro V aa wx hV hdep hval hj hsm hr
              have r124 := hr 124 (by decide) (by apply Array.mem_toList_iff.1; repeat (first | exact List.Mem.head _ | apply List.Mem.tail))
              obtain ⟨A5, c5, e124⟩ := r124
              have e124 : aa.tmps.getD 124 undef = .slice A5 0 c5 := e124
              rw [Array.getD_eq_getD_getElem?] at e124
              unfold Oper.wp
              simp only [execOp, Act.eval, Array.getD_eq_getD_getElem?, e124]
              go_simp
              first | exact ⟨_, rfl, rfl, Below.refl _ _⟩ | exact ⟨_, rfl, rfl, Below.refl _ _, hj⟩ | exact ⟨_, rfl, Below.refl _ _, hj⟩ | exact ⟨_, rfl, hj⟩
            | 34, ho =>
              cases ho
              intro V aa wx hV hdep hval hj hsm hr
              have e125 : aa.tmps.getD 125 undef = .int .i64 0 := hr 125 (by decide) (by apply Array.mem_toList_iff.1; repeat (first | exact List.Mem.head _ | apply List.Mem.tail))
              rw [Array.getD_eq_getD_getElem?] at e125
              unfold Oper.wp
              simp only [execOp, Act.eval, Array.getD_eq_getD_getElem?, e125]
              go_simp
              first | exact ⟨_, rfl, rfl, Below.refl _ _⟩ | exact ⟨_, rfl, rfl, Below.refl _ _, hj⟩ | exact ⟨_, rfl, Below.refl _ _, hj⟩ | exact ⟨_, rfl, hj⟩
            | 35, ho =>
              cases ho
              intro V aa wx hV hdep hval hj hsm hr
              have e113 : aa.tmps.getD 113 undef = .bool true := hr 113 (by decide) (by apply Array.mem_toList_iff.1; repeat (first | exact List.Mem.head _ | apply List.Mem.tail))
              have e126 : aa.tmps.getD 126 undef = .bool true := hr 126 (by decide) (by apply Array.mem_toList_iff.1; repeat (first | exact List.Mem.head _ | apply List.Mem.tail))
              rw [Array.getD_eq_getD_getElem?] at e113
              rw [Array.getD_eq_getD_getElem?] at e126
              unfold Oper.wp
              simp only [execOp, Act.eval, Array.getD_eq_getD_getElem?, e113, e126]
              go_simp
              first | exact ⟨_, rfl, rfl, Below.refl _ _⟩ | exact ⟨_, rfl, rfl, Below.refl _ _, hj⟩ | exact ⟨_, rfl, Below.refl _ _, hj⟩ | exact ⟨_, rfl, hj⟩
            | 36, ho =>
              cases ho
              intro V aa wx hV hdep hval hj hsm hr
              have e127 : aa.tmps.getD 127 undef = .bool true := hr 127 (by decide) (by apply Array.mem_toList_iff.1; repeat (first | exact List.Mem.head _ | apply List.Mem.tail))
              rw [Array.getD_eq_getD_getElem?] at e127
              unfold Oper.wp
              simp only [execOp, Act.eval, Array.getD_eq_getD_getElem?, e127]
              go_simp
              first | exact ⟨_, rfl, rfl, Below.refl _ _⟩ | exact ⟨_, rfl, rfl, Below.refl _ _, hj⟩ | exact ⟨_, rfl, Below.refl _ _, hj⟩ | exact ⟨_, rfl, hj⟩
            | _ + 37, ho => cases ho
          case fin =>
            intro ff V wq hV hj hr
            have e4 : ff 4 = .bool true := hr 4 (by decide)
            have HBQ := hide (HBW.out.trans (hj.mono HBW.out.size))
            clear hV hr hj
            simp only [putAll, slotsOf, List.filterMap_cons, List.filterMap_nil, List.foldl_cons, List.foldl_nil, Act.put, e4]
            simp only [List.setIfInBounds_toArray, List.set_cons_succ, List.set_cons_zero]
            go_wp2_with fail
            go_ret
            exact ⟨rfl, HBQ.out⟩
        have hltjI : (j : Int) < (N : Int) := by omega
        have HLJ := hide hltj
        clear hltj
        obtain ⟨⟨mk, mr, mc, mp, mt, mq, md, mf, ms⟩, hm⟩ : ∃ m, rl[j]? = some m := ⟨_, List.getElem?_eq_getElem (by rw [HN.out]; exact HLJ.out)⟩
        obtain ⟨g, rfl, hg, hit⟩ := HRR.out.it j _ hm
        have bz := (Below.refl wz.heap.size wz).alloc (Nat.le_refl _) (.cells #[.string ⟨#[]⟩, .int .i64 0, .int .i64 0, .int .i64 0, .int .i64 0, .int .i64 0, .bool false, .int .i64 0, .int .i64 0] 35)
        have kz := Blk.new wz 35 #[.string ⟨#[]⟩, .int .i64 0, .int .i64 0, .int .i64 0, .int .i64 0, .int .i64 0, .bool false, .int .i64 0, .int .i64 0]
        obtain ⟨w3, hw3⟩ : ∃ z, wz.alloc (.cells #[.string ⟨#[]⟩, .int .i64 0, .int .i64 0, .int .i64 0, .int .i64 0, .int .i64 0, .bool false, .int .i64 0, .int .i64 0] 35) = z := ⟨_, rfl⟩
        obtain ⟨Z, hZ⟩ : ∃ z, wz.heap.size = z := ⟨_, rfl⟩
        have n0 : wz.cell? ⟨g, j * 9, none⟩ = some (.string mk) := hit 0 _ rfl
        have n1 : wz.cell? ⟨g, j * 9 + 1, none⟩ = some (.int .i64 mr) := hit 1 _ rfl
        have n2 : wz.cell? ⟨g, j * 9 + 2, none⟩ = some (.int .i64 mc) := hit 2 _ rfl
        have n3 : wz.cell? ⟨g, j * 9 + 3, none⟩ = some (.int .i64 mp) := hit 3 _ rfl
        have n4 : wz.cell? ⟨g, j * 9 + 4, none⟩ = some (.int .i64 mt) := hit 4 _ rfl
        have n5 : wz.cell? ⟨g, j * 9 + 5, none⟩ = some (.int .i64 mq) := hit 5 _ rfl
        have n6 : wz.cell? ⟨g, j * 9 + 6, none⟩ = some (.bool md) := hit 6 _ rfl
        have n7 : wz.cell? ⟨g, j * 9 + 7, none⟩ = some (.int .i64 mf) := hit 7 _ rfl
        have n8 : wz.cell? ⟨g, j * 9 + 8, none⟩ = some (.int .i64 ms) := hit 8 _ rfl
        rw [hw3] at bz kz
        rw [hZ] at kz
        have z0 : w3.cell? ⟨Z, 0, none⟩ = some (.string ⟨#[]⟩) := kz.cell 0
        have f0 := kz.frozen 0
        have z1 : w3.cell? ⟨Z, 1, none⟩ = some (.int .i64 0) := kz.cell 1
        have f1 := kz.frozen 1
        have z2 : w3.cell? ⟨Z, 2, none⟩ = some (.int .i64 0) := kz.cell 2
        have f2 := kz.frozen 2
        have z3 : w3.cell? ⟨Z, 3, none⟩ = some (.int .i64 0) := kz.cell 3
        have f3 := kz.frozen 3
        have z4 : w3.cell? ⟨Z, 4, none⟩ = some (.int .i64 0) := kz.cell 4
        have f4 := kz.frozen 4
        have z5 : w3.cell? ⟨Z, 5, none⟩ = some (.int .i64 0) := kz.cell 5
        have f5 := kz.frozen 5
        have z6 : w3.cell? ⟨Z, 6, none⟩ = some (.bool false) := kz.cell 6
        have f6 := kz.frozen 6
        have z7 : w3.cell? ⟨Z, 7, none⟩ = some (.int .i64 0) := kz.cell 7
        have f7 := kz.frozen 7
        have z8 : w3.cell? ⟨Z, 8, none⟩ = some (.int .i64 0) := kz.cell 8
        have f8 := kz.frozen 8
        have k9 := put9 kz (.string mk) (.int .i64 mr) (.int .i64 mc) (.int .i64 mp) (.int .i64 mt) (.int .i64 mq) (.bool md) (.int .i64 mf) (.int .i64 ms)
        have b9 := bel9 bz (show wz.heap.size ≤ Z by omega) (.string mk) (.int .i64 mr) (.int .i64 mc) (.int .i64 mp) (.int .i64 mt) (.int .i64 mq) (.bool md) (.int .i64 mf) (.int .i64 ms)
        obtain ⟨w9, hw9⟩ : ∃ z, ((((((((w3.setCell ⟨Z, 0, none⟩ (.string mk)).setCell ⟨Z, 1, none⟩ (.int .i64 mr)).setCell ⟨Z, 2, none⟩ (.int .i64 mc)).setCell ⟨Z, 3, none⟩ (.int .i64 mp)).setCell ⟨Z, 4, none⟩ (.int .i64 mt)).setCell ⟨Z, 5, none⟩ (.int .i64 mq)).setCell ⟨Z, 6, none⟩ (.bool md)).setCell ⟨Z, 7, none⟩ (.int .i64 mf)).setCell ⟨Z, 8, none⟩ (.int .i64 ms) = z := ⟨_, rfl⟩
        rw [hw9] at k9 b9
        have KZ := hide k9
        have HBY := hide b9
        clear hit hm k9 b9 bz kz
        go_upto_region 14 with (fail)
        first | rw [hw9] | skip
        have HP9 := hide (HPZ.out.below HBY.out)
        have HBA := hide (HBZ.out.trans (HBY.out.mono HBZ.out.size))
        have hm64 := mayD_len rl l mr mc
        obtain ⟨ml, hml⟩ : ∃ z, mayD rl l mr mc = z := ⟨_, rfl⟩
        rw [hml] at hm64
        obtain ⟨nm, hnm⟩ : ∃ z, ml.length = z := ⟨_, rfl⟩
        rw [hnm] at hm64
        have HNM := hide (And.intro hnm hm64)
        have HMA := hide (fun wx (hb : Below w9.heap.size w9 wx) => show Calls Try.prog 23 #[.pointer (some ⟨p, 0, none⟩), .pointer (some ⟨q, 0, none⟩), .int .i64 mr, .int .i64 mc] wx fun e w' => ∃ A1 c1, e = .returned (.slice A1 nm c1) ∧ MRow w' A1 ml ∧ Below wx.heap.size wx w' from by
          have h := (HP9.out.below hb).may HFL.out.1 HLR.out.1 HLR.out.2 mr mc
          unfold Said at h
          rw [hml, hnm] at h
          exact h)
        have HMD := hide (fun wx (hb : Below w9.heap.size w9 wx) => show Calls Try.prog 24 #[.pointer (some ⟨d, 0, none⟩), .pointer (some ⟨rq, 0, none⟩), .int .i64 mr, .int .i64 mc] wx fun e w' => ∃ A1 c1, e = .returned (.slice A1 nm c1) ∧ MRow w' A1 ml ∧ Below wx.heap.size wx w' from by
          have h := (HP9.out.below hb).mayD HFL.out.1 HLR.out.1 HLR.out.2 mr mc
          unfold Said at h
          rw [hml, hnm] at h
          exact h)
        clear hml hnm hm64 hw3 hZ hw9 y3 c0 n0 z0 f0 n1 z1 f1 n2 z2 f2 n3 z3 f3 n4 z4 f4 n5 z5 f5 n6 z6 f6 n7 z7 f7 n8 z8 f8
        let R : Nat → Value → World → Prop := fun sl u w1 => match sl with
          | 64 => u = .pointer (some ⟨Y, 0, none⟩)
          | 65 => u = .pointer (some ⟨Y, 0, none⟩)
          | 66 => u = .pointer (some ⟨Y, 1, none⟩)
          | 67 => u = .pointer (some ⟨p, 0, none⟩)
          | 68 => u = .pointer (some ⟨Y, 0, none⟩)
          | 69 => u = .pointer (some ⟨Y, 0, none⟩)
          | 70 => u = .pointer (some ⟨Y, 0, none⟩)
          | 71 => u = .pointer (some ⟨q, 0, none⟩)
          | 72 => u = .pointer (some ⟨Z, 1, none⟩)
          | 73 => u = .int .i64 mr
          | 74 => u = .pointer (some ⟨Z, 2, none⟩)
          | 75 => u = .int .i64 mc
          | 76 => ∃ A1 c1, u = .slice A1 nm c1 ∧ MRow w1 A1 ml
          | 77 => u = .pointer (some ⟨Y, 0, none⟩)
          | 78 => u = .pointer (some ⟨Y, 0, none⟩)
          | 79 => u = .pointer (some ⟨Y, 3, none⟩)
          | 80 => u = .pointer (some ⟨d, 0, none⟩)
          | 81 => u = .pointer (some ⟨Y, 0, none⟩)
          | 82 => u = .pointer (some ⟨Y, 0, none⟩)
          | 83 => u = .pointer (some ⟨Y, 2, none⟩)
          | 84 => u = .pointer (some ⟨rq, 0, none⟩)
          | 85 => u = .pointer (some ⟨Z, 1, none⟩)
          | 86 => u = .int .i64 mr
          | 87 => u = .pointer (some ⟨Z, 2, none⟩)
          | 88 => u = .int .i64 mc
          | 89 => ∃ A1 c1, u = .slice A1 nm c1 ∧ MRow w1 A1 ml
          | 90 => u = .bool true
          | 91 => u = .bool false
          | _ => True
        refine wp_region_relGW [] R (fun a b => Below a.heap.size a b) (fun _ w => Below w9.heap.size w9 w) (by kernel_rfl) (by kernel_rfl) (by kernel_rfl) (by kernel_rfl) ?mono (fun w => Below.refl _ _) ((Below.refl _ _).drew) ?gs ?step ?fin
        case mono =>
          intro sl u wx wy h hk
          match sl with
          | 76 =>
            obtain ⟨A1, c1, h1, h2⟩ := h
            exact ⟨A1, c1, h1, h2.below hk⟩
          | 89 =>
            obtain ⟨A1, c1, h1, h2⟩ := h
            exact ⟨A1, c1, h1, h2.below hk⟩
          | 0 | 1 | 2 | 3 | 4 | 5 | 6 | 7 | 8 | 9 | 10 | 11 | 12 | 13 | 14 | 15 | 16 | 17 | 18 | 19 | 20 | 21 | 22 | 23 | 24 | 25 | 26 | 27 | 28 | 29 | 30 | 31 | 32 | 33 | 34 | 35 | 36 | 37 | 38 | 39 | 40 | 41 | 42 | 43 | 44 | 45 | 46 | 47 | 48 | 49 | 50 | 51 | 52 | 53 | 54 | 55 | 56 | 57 | 58 | 59 | 60 | 61 | 62 | 63 | 64 | 65 | 66 | 67 | 68 | 69 | 70 | 71 | 72 | 73 | 74 | 75 | 77 | 78 | 79 | 80 | 81 | 82 | 83 | 84 | 85 | 86 | 87 | 88 | 90 | 91 | _ + 92 => exact h
        case gs =>
          intro p hp u w1 h
          cases hp
        case step =>
          intro j o ho
          match j, ho with
          | 0, ho =>
            cases ho
            intro V aa wx hV hdep hval hj hsm hr
            have e5 : aa.tmps.getD 5 undef = .pointer (some ⟨Y, 0, none⟩) := hsm 5 (by decide)
            rw [Array.getD_eq_getD_getElem?] at e5
            unfold Oper.wp
            simp only [execOp, Act.eval, Array.getD_eq_getD_getElem?, e5]
            go_simp
            first | exact ⟨_, rfl, rfl, Below.refl _ _⟩ | exact ⟨_, rfl, rfl, Below.refl _ _, hj⟩ | exact ⟨_, rfl, Below.refl _ _, hj⟩ | exact ⟨_, rfl, hj⟩
          | 1, ho =>
            cases ho
            intro V aa wx hV hdep hval hj hsm hr
            have e64 : aa.tmps.getD 64 undef = .pointer (some ⟨Y, 0, none⟩) := hr 64 (by decide) (by apply Array.mem_toList_iff.1; repeat (first | exact List.Mem.head _ | apply List.Mem.tail))
            rw [Array.getD_eq_getD_getElem?] at e64
            unfold Oper.wp
            simp only [execOp, Act.eval, Array.getD_eq_getD_getElem?, e64]
            go_simp
            first | exact ⟨_, rfl, rfl, Below.refl _ _⟩ | exact ⟨_, rfl, rfl, Below.refl _ _, hj⟩ | exact ⟨_, rfl, Below.refl _ _, hj⟩ | exact ⟨_, rfl, hj⟩
          | 2, ho =>
            cases ho
            intro V aa wx hV hdep hval hj hsm hr
            have e65 : aa.tmps.getD 65 undef = .pointer (some ⟨Y, 0, none⟩) := hr 65 (by decide) (by apply Array.mem_toList_iff.1; repeat (first | exact List.Mem.head _ | apply List.Mem.tail))
            rw [Array.getD_eq_getD_getElem?] at e65
            unfold Oper.wp
            simp only [execOp, Act.eval, Array.getD_eq_getD_getElem?, e65]
            go_simp
            first | exact ⟨_, rfl, rfl, Below.refl _ _⟩ | exact ⟨_, rfl, rfl, Below.refl _ _, hj⟩ | exact ⟨_, rfl, Below.refl _ _, hj⟩ | exact ⟨_, rfl, hj⟩
          | 3, ho =>
            cases ho
            intro V aa wx hV hdep hval hj hsm hr
            have e66 : aa.tmps.getD 66 undef = .pointer (some ⟨Y, 1, none⟩) := hr 66 (by decide) (by apply Array.mem_toList_iff.1; repeat (first | exact List.Mem.head _ | apply List.Mem.tail))
            have hk := (HP9.out.below hj).blk
            have x1 : wx.cell? ⟨Y, 1, none⟩ = some (.pointer (some ⟨p, 0, none⟩)) := hk.cell 1
            rw [Array.getD_eq_getD_getElem?] at e66
            unfold Oper.wp
            simp only [execOp, Act.eval, Array.getD_eq_getD_getElem?, e66]
            go_simp
            first | exact ⟨_, rfl, rfl, Below.refl _ _⟩ | exact ⟨_, rfl, rfl, Below.refl _ _, hj⟩ | exact ⟨_, rfl, Below.refl _ _, hj⟩ | exact ⟨_, rfl, hj⟩
          | 4, ho =>
            cases ho
            intro V aa wx hV hdep hval hj hsm hr
            have e5 : aa.tmps.getD 5 undef = .pointer (some ⟨Y, 0, none⟩) := hsm 5 (by decide)
            rw [Array.getD_eq_getD_getElem?] at e5
            unfold Oper.wp
            simp only [execOp, Act.eval, Array.getD_eq_getD_getElem?, e5]
            go_simp
            first | exact ⟨_, rfl, rfl, Below.refl _ _⟩ | exact ⟨_, rfl, rfl, Below.refl _ _, hj⟩ | exact ⟨_, rfl, Below.refl _ _, hj⟩ | exact ⟨_, rfl, hj⟩
          | 5, ho =>
            cases ho
            intro V aa wx hV hdep hval hj hsm hr
            have e68 : aa.tmps.getD 68 undef = .pointer (some ⟨Y, 0, none⟩) := hr 68 (by decide) (by apply Array.mem_toList_iff.1; repeat (first | exact List.Mem.head _ | apply List.Mem.tail))
            rw [Array.getD_eq_getD_getElem?] at e68
            unfold Oper.wp
            simp only [execOp, Act.eval, Array.getD_eq_getD_getElem?, e68]
            go_simp
            first | exact ⟨_, rfl, rfl, Below.refl _ _⟩ | exact ⟨_, rfl, rfl, Below.refl _ _, hj⟩ | exact ⟨_, rfl, Below.refl _ _, hj⟩ | exact ⟨_, rfl, hj⟩
          | 6, ho =>
            cases ho
            intro V aa wx hV hdep hval hj hsm hr
            have e69 : aa.tmps.getD 69 undef = .pointer (some ⟨Y, 0, none⟩) := hr 69 (by decide) (by apply Array.mem_toList_iff.1; repeat (first | exact List.Mem.head _ | apply List.Mem.tail))
            rw [Array.getD_eq_getD_getElem?] at e69
            unfold Oper.wp
            simp only [execOp, Act.eval, Array.getD_eq_getD_getElem?, e69]
            go_simp
            first | exact ⟨_, rfl, rfl, Below.refl _ _⟩ | exact ⟨_, rfl, rfl, Below.refl _ _, hj⟩ | exact ⟨_, rfl, Below.refl _ _, hj⟩ | exact ⟨_, rfl, hj⟩
          | 7, ho =>
            cases ho
            intro V aa wx hV hdep hval hj hsm hr
            have e70 : aa.tmps.getD 70 undef = .pointer (some ⟨Y, 0, none⟩) := hr 70 (by decide) (by apply Array.mem_toList_iff.1; repeat (first | exact List.Mem.head _ | apply List.Mem.tail))
            have hk := (HP9.out.below hj).blk
            have x0 : wx.cell? ⟨Y, 0, none⟩ = some (.pointer (some ⟨q, 0, none⟩)) := hk.cell 0
            rw [Array.getD_eq_getD_getElem?] at e70
            unfold Oper.wp
            simp only [execOp, Act.eval, Array.getD_eq_getD_getElem?, e70]
            go_simp
            first | exact ⟨_, rfl, rfl, Below.refl _ _⟩ | exact ⟨_, rfl, rfl, Below.refl _ _, hj⟩ | exact ⟨_, rfl, Below.refl _ _, hj⟩ | exact ⟨_, rfl, hj⟩
          | 8, ho =>
            cases ho
            intro V aa wx hV hdep hval hj hsm hr
            have e8 : aa.tmps.getD 8 undef = .pointer (some ⟨Z, 0, none⟩) := hsm 8 (by decide)
            rw [Array.getD_eq_getD_getElem?] at e8
            unfold Oper.wp
            simp only [execOp, Act.eval, Array.getD_eq_getD_getElem?, e8]
            go_simp
            first | exact ⟨_, rfl, rfl, Below.refl _ _⟩ | exact ⟨_, rfl, rfl, Below.refl _ _, hj⟩ | exact ⟨_, rfl, Below.refl _ _, hj⟩ | exact ⟨_, rfl, hj⟩
          | 9, ho =>
            cases ho
            intro V aa wx hV hdep hval hj hsm hr
            have e72 : aa.tmps.getD 72 undef = .pointer (some ⟨Z, 1, none⟩) := hr 72 (by decide) (by apply Array.mem_toList_iff.1; repeat (first | exact List.Mem.head _ | apply List.Mem.tail))
            have hk := KZ.out.below hj KZ.out.lt
            have x1 : wx.cell? ⟨Z, 1, none⟩ = some (.int .i64 mr) := hk.cell 1
            rw [Array.getD_eq_getD_getElem?] at e72
            unfold Oper.wp
            simp only [execOp, Act.eval, Array.getD_eq_getD_getElem?, e72]
            go_simp
            first | exact ⟨_, rfl, rfl, Below.refl _ _⟩ | exact ⟨_, rfl, rfl, Below.refl _ _, hj⟩ | exact ⟨_, rfl, Below.refl _ _, hj⟩ | exact ⟨_, rfl, hj⟩
          | 10, ho =>
            cases ho
            intro V aa wx hV hdep hval hj hsm hr
            have e8 : aa.tmps.getD 8 undef = .pointer (some ⟨Z, 0, none⟩) := hsm 8 (by decide)
            rw [Array.getD_eq_getD_getElem?] at e8
            unfold Oper.wp
            simp only [execOp, Act.eval, Array.getD_eq_getD_getElem?, e8]
            go_simp
            first | exact ⟨_, rfl, rfl, Below.refl _ _⟩ | exact ⟨_, rfl, rfl, Below.refl _ _, hj⟩ | exact ⟨_, rfl, Below.refl _ _, hj⟩ | exact ⟨_, rfl, hj⟩
          | 11, ho =>
            cases ho
            intro V aa wx hV hdep hval hj hsm hr
            have e74 : aa.tmps.getD 74 undef = .pointer (some ⟨Z, 2, none⟩) := hr 74 (by decide) (by apply Array.mem_toList_iff.1; repeat (first | exact List.Mem.head _ | apply List.Mem.tail))
            have hk := KZ.out.below hj KZ.out.lt
            have x2 : wx.cell? ⟨Z, 2, none⟩ = some (.int .i64 mc) := hk.cell 2
            rw [Array.getD_eq_getD_getElem?] at e74
            unfold Oper.wp
            simp only [execOp, Act.eval, Array.getD_eq_getD_getElem?, e74]
            go_simp
            first | exact ⟨_, rfl, rfl, Below.refl _ _⟩ | exact ⟨_, rfl, rfl, Below.refl _ _, hj⟩ | exact ⟨_, rfl, Below.refl _ _, hj⟩ | exact ⟨_, rfl, hj⟩
          | 12, ho =>
            cases ho
            intro V aa wx hV hdep hval hj hsm hr
            have e67 : aa.tmps.getD 67 undef = .pointer (some ⟨p, 0, none⟩) := hr 67 (by decide) (by apply Array.mem_toList_iff.1; repeat (first | exact List.Mem.head _ | apply List.Mem.tail))
            have e71 : aa.tmps.getD 71 undef = .pointer (some ⟨q, 0, none⟩) := hr 71 (by decide) (by apply Array.mem_toList_iff.1; repeat (first | exact List.Mem.head _ | apply List.Mem.tail))
            have e73 : aa.tmps.getD 73 undef = .int .i64 mr := hr 73 (by decide) (by apply Array.mem_toList_iff.1; repeat (first | exact List.Mem.head _ | apply List.Mem.tail))
            have e75 : aa.tmps.getD 75 undef = .int .i64 mc := hr 75 (by decide) (by apply Array.mem_toList_iff.1; repeat (first | exact List.Mem.head _ | apply List.Mem.tail))
            rw [Array.getD_eq_getD_getElem?] at e67
            rw [Array.getD_eq_getD_getElem?] at e71
            rw [Array.getD_eq_getD_getElem?] at e73
            rw [Array.getD_eq_getD_getElem?] at e75
            unfold Oper.wp
            simp only [execOp, Act.eval, Array.getD_eq_getD_getElem?, e67, e71, e73, e75]
            go_simp
            refine (HMA.out wx hj).mono ?_
            rintro e w' ⟨A1, c1, rfl, hown, hb⟩
            exact ⟨_, rfl, ⟨A1, c1, rfl, hown⟩, hb, hj.trans (hb.mono hj.size)⟩
          | 13, ho =>
            cases ho
            intro V aa wx hV hdep hval hj hsm hr
            have e5 : aa.tmps.getD 5 undef = .pointer (some ⟨Y, 0, none⟩) := hsm 5 (by decide)
            rw [Array.getD_eq_getD_getElem?] at e5
            unfold Oper.wp
            simp only [execOp, Act.eval, Array.getD_eq_getD_getElem?, e5]
            go_simp
            first | exact ⟨_, rfl, rfl, Below.refl _ _⟩ | exact ⟨_, rfl, rfl, Below.refl _ _, hj⟩ | exact ⟨_, rfl, Below.refl _ _, hj⟩ | exact ⟨_, rfl, hj⟩
          | 14, ho =>
            cases ho
            intro V aa wx hV hdep hval hj hsm hr
            have e77 : aa.tmps.getD 77 undef = .pointer (some ⟨Y, 0, none⟩) := hr 77 (by decide) (by apply Array.mem_toList_iff.1; repeat (first | exact List.Mem.head _ | apply List.Mem.tail))
            rw [Array.getD_eq_getD_getElem?] at e77
            unfold Oper.wp
            simp only [execOp, Act.eval, Array.getD_eq_getD_getElem?, e77]
            go_simp
            first | exact ⟨_, rfl, rfl, Below.refl _ _⟩ | exact ⟨_, rfl, rfl, Below.refl _ _, hj⟩ | exact ⟨_, rfl, Below.refl _ _, hj⟩ | exact ⟨_, rfl, hj⟩
          | 15, ho =>
            cases ho
            intro V aa wx hV hdep hval hj hsm hr
            have e78 : aa.tmps.getD 78 undef = .pointer (some ⟨Y, 0, none⟩) := hr 78 (by decide) (by apply Array.mem_toList_iff.1; repeat (first | exact List.Mem.head _ | apply List.Mem.tail))
            rw [Array.getD_eq_getD_getElem?] at e78
            unfold Oper.wp
            simp only [execOp, Act.eval, Array.getD_eq_getD_getElem?, e78]
            go_simp
            first | exact ⟨_, rfl, rfl, Below.refl _ _⟩ | exact ⟨_, rfl, rfl, Below.refl _ _, hj⟩ | exact ⟨_, rfl, Below.refl _ _, hj⟩ | exact ⟨_, rfl, hj⟩
          | 16, ho =>
            cases ho
            intro V aa wx hV hdep hval hj hsm hr
            have e79 : aa.tmps.getD 79 undef = .pointer (some ⟨Y, 3, none⟩) := hr 79 (by decide) (by apply Array.mem_toList_iff.1; repeat (first | exact List.Mem.head _ | apply List.Mem.tail))
            have hk := (HP9.out.below hj).blk
            have x3 : wx.cell? ⟨Y, 3, none⟩ = some (.pointer (some ⟨d, 0, none⟩)) := hk.cell 3
            rw [Array.getD_eq_getD_getElem?] at e79
            unfold Oper.wp
            simp only [execOp, Act.eval, Array.getD_eq_getD_getElem?, e79]
            go_simp
            first | exact ⟨_, rfl, rfl, Below.refl _ _⟩ | exact ⟨_, rfl, rfl, Below.refl _ _, hj⟩ | exact ⟨_, rfl, Below.refl _ _, hj⟩ | exact ⟨_, rfl, hj⟩
          | 17, ho =>
            cases ho
            intro V aa wx hV hdep hval hj hsm hr
            have e5 : aa.tmps.getD 5 undef = .pointer (some ⟨Y, 0, none⟩) := hsm 5 (by decide)
            rw [Array.getD_eq_getD_getElem?] at e5
            unfold Oper.wp
            simp only [execOp, Act.eval, Array.getD_eq_getD_getElem?, e5]
            go_simp
            first | exact ⟨_, rfl, rfl, Below.refl _ _⟩ | exact ⟨_, rfl, rfl, Below.refl _ _, hj⟩ | exact ⟨_, rfl, Below.refl _ _, hj⟩ | exact ⟨_, rfl, hj⟩
          | 18, ho =>
            cases ho
            intro V aa wx hV hdep hval hj hsm hr
            have e81 : aa.tmps.getD 81 undef = .pointer (some ⟨Y, 0, none⟩) := hr 81 (by decide) (by apply Array.mem_toList_iff.1; repeat (first | exact List.Mem.head _ | apply List.Mem.tail))
            rw [Array.getD_eq_getD_getElem?] at e81
            unfold Oper.wp
            simp only [execOp, Act.eval, Array.getD_eq_getD_getElem?, e81]
            go_simp
            first | exact ⟨_, rfl, rfl, Below.refl _ _⟩ | exact ⟨_, rfl, rfl, Below.refl _ _, hj⟩ | exact ⟨_, rfl, Below.refl _ _, hj⟩ | exact ⟨_, rfl, hj⟩
          | 19, ho =>
            cases ho
            intro V aa wx hV hdep hval hj hsm hr
            have e82 : aa.tmps.getD 82 undef = .pointer (some ⟨Y, 0, none⟩) := hr 82 (by decide) (by apply Array.mem_toList_iff.1; repeat (first | exact List.Mem.head _ | apply List.Mem.tail))
            rw [Array.getD_eq_getD_getElem?] at e82
            unfold Oper.wp
            simp only [execOp, Act.eval, Array.getD_eq_getD_getElem?, e82]
            go_simp
            first | exact ⟨_, rfl, rfl, Below.refl _ _⟩ | exact ⟨_, rfl, rfl, Below.refl _ _, hj⟩ | exact ⟨_, rfl, Below.refl _ _, hj⟩ | exact ⟨_, rfl, hj⟩
          | 20, ho =>
            cases ho
            intro V aa wx hV hdep hval hj hsm hr
            have e83 : aa.tmps.getD 83 undef = .pointer (some ⟨Y, 2, none⟩) := hr 83 (by decide) (by apply Array.mem_toList_iff.1; repeat (first | exact List.Mem.head _ | apply List.Mem.tail))
            have hk := (HP9.out.below hj).blk
            have x2 : wx.cell? ⟨Y, 2, none⟩ = some (.pointer (some ⟨rq, 0, none⟩)) := hk.cell 2
            rw [Array.getD_eq_getD_getElem?] at e83
            unfold Oper.wp
            simp only [execOp, Act.eval, Array.getD_eq_getD_getElem?, e83]
            go_simp
            first | exact ⟨_, rfl, rfl, Below.refl _ _⟩ | exact ⟨_, rfl, rfl, Below.refl _ _, hj⟩ | exact ⟨_, rfl, Below.refl _ _, hj⟩ | exact ⟨_, rfl, hj⟩
          | 21, ho =>
            cases ho
            intro V aa wx hV hdep hval hj hsm hr
            have e8 : aa.tmps.getD 8 undef = .pointer (some ⟨Z, 0, none⟩) := hsm 8 (by decide)
            rw [Array.getD_eq_getD_getElem?] at e8
            unfold Oper.wp
            simp only [execOp, Act.eval, Array.getD_eq_getD_getElem?, e8]
            go_simp
            first | exact ⟨_, rfl, rfl, Below.refl _ _⟩ | exact ⟨_, rfl, rfl, Below.refl _ _, hj⟩ | exact ⟨_, rfl, Below.refl _ _, hj⟩ | exact ⟨_, rfl, hj⟩
          | 22, ho =>
            cases ho
            intro V aa wx hV hdep hval hj hsm hr
            have e85 : aa.tmps.getD 85 undef = .pointer (some ⟨Z, 1, none⟩) := hr 85 (by decide) (by apply Array.mem_toList_iff.1; repeat (first | exact List.Mem.head _ | apply List.Mem.tail))
            have hk := KZ.out.below hj KZ.out.lt
            have x1 : wx.cell? ⟨Z, 1, none⟩ = some (.int .i64 mr) := hk.cell 1
            rw [Array.getD_eq_getD_getElem?] at e85
            unfold Oper.wp
            simp only [execOp, Act.eval, Array.getD_eq_getD_getElem?, e85]
            go_simp
            first | exact ⟨_, rfl, rfl, Below.refl _ _⟩ | exact ⟨_, rfl, rfl, Below.refl _ _, hj⟩ | exact ⟨_, rfl, Below.refl _ _, hj⟩ | exact ⟨_, rfl, hj⟩
          | 23, ho =>
            cases ho
            intro V aa wx hV hdep hval hj hsm hr
            have e8 : aa.tmps.getD 8 undef = .pointer (some ⟨Z, 0, none⟩) := hsm 8 (by decide)
            rw [Array.getD_eq_getD_getElem?] at e8
            unfold Oper.wp
            simp only [execOp, Act.eval, Array.getD_eq_getD_getElem?, e8]
            go_simp
            first | exact ⟨_, rfl, rfl, Below.refl _ _⟩ | exact ⟨_, rfl, rfl, Below.refl _ _, hj⟩ | exact ⟨_, rfl, Below.refl _ _, hj⟩ | exact ⟨_, rfl, hj⟩
          | 24, ho =>
            cases ho
            intro V aa wx hV hdep hval hj hsm hr
            have e87 : aa.tmps.getD 87 undef = .pointer (some ⟨Z, 2, none⟩) := hr 87 (by decide) (by apply Array.mem_toList_iff.1; repeat (first | exact List.Mem.head _ | apply List.Mem.tail))
            have hk := KZ.out.below hj KZ.out.lt
            have x2 : wx.cell? ⟨Z, 2, none⟩ = some (.int .i64 mc) := hk.cell 2
            rw [Array.getD_eq_getD_getElem?] at e87
            unfold Oper.wp
            simp only [execOp, Act.eval, Array.getD_eq_getD_getElem?, e87]
            go_simp
            first | exact ⟨_, rfl, rfl, Below.refl _ _⟩ | exact ⟨_, rfl, rfl, Below.refl _ _, hj⟩ | exact ⟨_, rfl, Below.refl _ _, hj⟩ | exact ⟨_, rfl, hj⟩
          | 25, ho =>
            cases ho
            intro V aa wx hV hdep hval hj hsm hr
            have e80 : aa.tmps.getD 80 undef = .pointer (some ⟨d, 0, none⟩) := hr 80 (by decide) (by apply Array.mem_toList_iff.1; repeat (first | exact List.Mem.head _ | apply List.Mem.tail))
            have e84 : aa.tmps.getD 84 undef = .pointer (some ⟨rq, 0, none⟩) := hr 84 (by decide) (by apply Array.mem_toList_iff.1; repeat (first | exact List.Mem.head _ | apply List.Mem.tail))
            have e86 : aa.tmps.getD 86 undef = .int .i64 mr := hr 86 (by decide) (by apply Array.mem_toList_iff.1; repeat (first | exact List.Mem.head _ | apply List.Mem.tail))
            have e88 : aa.tmps.getD 88 undef = .int .i64 mc := hr 88 (by decide) (by apply Array.mem_toList_iff.1; repeat (first | exact List.Mem.head _ | apply List.Mem.tail))
            rw [Array.getD_eq_getD_getElem?] at e80
            rw [Array.getD_eq_getD_getElem?] at e84
            rw [Array.getD_eq_getD_getElem?] at e86
            rw [Array.getD_eq_getD_getElem?] at e88
            unfold Oper.wp
            simp only [execOp, Act.eval, Array.getD_eq_getD_getElem?, e80, e84, e86, e88]
            go_simp
            refine (HMD.out wx hj).mono ?_
            rintro e w' ⟨A1, c1, rfl, hown, hb⟩
            exact ⟨_, rfl, ⟨A1, c1, rfl, hown⟩, hb, hj.trans (hb.mono hj.size)⟩
          | 26, ho =>
            cases ho
            intro V aa wx hV hdep hval hj hsm hr
            have r76 := hr 76 (by decide) (by apply Array.mem_toList_iff.1; repeat (first | exact List.Mem.head _ | apply List.Mem.tail))
            have r89 := hr 89 (by decide) (by apply Array.mem_toList_iff.1; repeat (first | exact List.Mem.head _ | apply List.Mem.tail))
            obtain ⟨A5, c5, e76, h5⟩ := r76
            have e76 : aa.tmps.getD 76 undef = .slice A5 nm c5 := e76
            obtain ⟨A8, c8, e89, h8⟩ := r89
            have e89 : aa.tmps.getD 89 undef = .slice A8 nm c8 := e89
            rw [Array.getD_eq_getD_getElem?] at e76
            rw [Array.getD_eq_getD_getElem?] at e89
            unfold Oper.wp
            simp only [execOp, Act.eval, Array.getD_eq_getD_getElem?, e76, e89]
            go_simp
            refine (Same_b A5 A8 c5 c8 nm ml h5 h8 HNM.out.1 (by have := HNM.out.2; omega)).mono ?_
            rintro e w' ⟨rfl, hb⟩
            exact ⟨_, rfl, rfl, hb, hj.trans (hb.mono hj.size)⟩
          | 27, ho =>
            cases ho
            intro V aa wx hV hdep hval hj hsm hr
            have e90 : aa.tmps.getD 90 undef = .bool true := hr 90 (by decide) (by apply Array.mem_toList_iff.1; repeat (first | exact List.Mem.head _ | apply List.Mem.tail))
            rw [Array.getD_eq_getD_getElem?] at e90
            unfold Oper.wp
            simp only [execOp, Act.eval, Array.getD_eq_getD_getElem?, e90]
            go_simp
            first | exact ⟨_, rfl, rfl, Below.refl _ _⟩ | exact ⟨_, rfl, rfl, Below.refl _ _, hj⟩ | exact ⟨_, rfl, Below.refl _ _, hj⟩ | exact ⟨_, rfl, hj⟩
          | _ + 28, ho => cases ho
        case fin =>
          intro ff V wq hV hj hr
          have e91 : ff 91 = .bool false := hr 91 (by decide)
          have HBQ := hide (HBA.out.trans (hj.mono HBA.out.size))
          clear hV hr hj
          simp only [putAll, slotsOf, List.filterMap_cons, List.filterMap_nil, List.foldl_cons, List.foldl_nil, Act.put, e91]
          simp only [List.setIfInBounds_toArray, List.set_cons_succ, List.set_cons_zero]
          go_wp2_with fail
          go_roundw
          case rel => exact ⟨j + 1, HLJ.out, by go_num, HBQ⟩
          case measure => have := HLJ.out; simp [RowKit.intOf] <;> omega
end Go.Proofs.Ytonmojinijpneaa.PostedMayW
