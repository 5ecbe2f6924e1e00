/- Both queues behind the acts. -/
import Derived.Test.YtomladbdebfikaaRows
import Derived.Test.YtomladbdebfikaaQuV
import Derived.Test.YtomladbdebfikaaQuS
namespace Go.Proofs.Ytomladbdebfikaa
open Go Go.RowKit Go.Deep Go.Lib
set_option linter.unusedVariables false
set_option linter.unusedSimpArgs false
namespace Qu
set_option maxRecDepth 100000 in
set_option maxHeartbeats 16000000 in
theorem done_c {w : World} {A : Option Addr} {n : Nat} {F : Nat → Ac} (cap : Nat) (h : Acts w A n F) (hn : n ≤ 200) :
    Calls Try.prog 19 #[.slice A n cap] w fun e w' => ∃ q L p A' l, e = .returned (.tuple #[.pointer (some ⟨q, 0, none⟩), .pointer (some ⟨p, 0, none⟩)]) ∧ Both w' w.heap.size q L p A' l l ∧ l.length ≤ 200 ∧ Below w.heap.size w w' := by
  have HF := hide h
  have HNL := hide hn
  have NC := hide (New_c w)
  clear h hn
  go_enter Try.func19, Try.ntmps19
  go_wp2_with fail
  refine NC.out.mono ?_
  rintro e w1 ⟨q, L0, rfl, hq, hf, hb⟩
  have hbo := both_new hq hf hb.size
  have hbb := hb.trans (((Below.refl w1.heap.size w1).alloc (Nat.le_refl _) (.cells #[.slice none 0 0] 29)).mono hb.size)
  obtain ⟨p, hp⟩ : ∃ z, w1.heap.size = z := ⟨_, rfl⟩
  obtain ⟨w2, hw2⟩ : ∃ z, w1.alloc (.cells #[.slice none 0 0] 29) = z := ⟨_, rfl⟩
  rw [hp, hw2] at hbo
  rw [hw2] at hbb
  have HBO := hide hbo
  have HBB := hide hbb
  have HW2 := hide hw2
  have HP := hide hp
  clear hbo hbb hw2 hp hq hf hb NC
  go_upto_region 2 with (fail)
  rw [HW2.out, HP.out]
  clear HW2 HP
  go_wp2_with fail
  go_loopw [6, 7] (fun v6 _ wr => ∃ (i : Nat) (L : QL) (A' : Option Addr) (l : List Msg), i ≤ n ∧ v6 = .int .i64 i ∧ Hid (l.length ≤ i) ∧ Hid (Both wr w.heap.size q L p A' l l) ∧ Hid (Below w.heap.size w wr)) (fun v6 _ _ => n - (RowKit.intOf v6).toNat)
  case atStart => exact ⟨0, L0, none, [], Nat.zero_le _, rfl, hide (Nat.le_refl _), HBO, HBB⟩
  case round =>
    obtain ⟨i, L, A', l, hi, rfl, HLL, HBR, HBW⟩ := hrel
    rename World => wr
    have hn1 := HNL.out
    by_cases hlt : i < n
    rotate_left
    · have hltI : ¬ (i : Int) < (n : Int) := by omega
      have hll : l.length ≤ 200 := by have := HLL.out; omega
      clear hlt
      go_wp2_with fail
      exact bodyPost_ret (v := .tuple #[.pointer (some ⟨q, 0, none⟩), .pointer (some ⟨p, 0, none⟩)]) (by simp [results, Try.results19, go_sem]) rfl ⟨q, L, p, rfl, A', l, HBR.out, hll, HBW.out⟩
    have hltI : (i : Int) < (n : Int) := by omega
    obtain ⟨a, rfl, k0, k1, c0, hc⟩ := (HF.out.below HBW.out).cells hlt
    obtain ⟨x, hx⟩ : ∃ z, F i = z := ⟨_, rfl⟩
    rw [hx] at k0 k1 c0 hc
    obtain ⟨kind, ⟨xk, xf, xt, xc, xg, xv, xz, xb⟩⟩ := x
    simp only at k0 k1 c0 hc
    have c1 : wr.cell? ⟨(a.add (i * 9)).block, (a.add (i * 9)).off + 1, none⟩ = some (.string xk) := hc 0 _ rfl
    have c2 : wr.cell? ⟨(a.add (i * 9)).block, (a.add (i * 9)).off + 2, none⟩ = some (.int .i64 xf) := hc 1 _ rfl
    have c3 : wr.cell? ⟨(a.add (i * 9)).block, (a.add (i * 9)).off + 3, none⟩ = some (.int .i64 xt) := hc 2 _ rfl
    have c4 : wr.cell? ⟨(a.add (i * 9)).block, (a.add (i * 9)).off + 4, none⟩ = some (.int .i64 xc) := hc 3 _ rfl
    have c5 : wr.cell? ⟨(a.add (i * 9)).block, (a.add (i * 9)).off + 5, none⟩ = some (.int .i64 xg) := hc 4 _ rfl
    have c6 : wr.cell? ⟨(a.add (i * 9)).block, (a.add (i * 9)).off + 6, none⟩ = some (.int .i64 xv) := hc 5 _ rfl
    have c7 : wr.cell? ⟨(a.add (i * 9)).block, (a.add (i * 9)).off + 7, none⟩ = some (.int .i64 xz) := hc 6 _ rfl
    have c8 : wr.cell? ⟨(a.add (i * 9)).block, (a.add (i * 9)).off + 8, none⟩ = some (.bool xb) := hc 7 _ rfl
    have HLT := hide hlt
    have RM := hide (rem4 k0)
    have HKI := hide (And.intro k0 k1)
    have ba := (Below.refl wr.heap.size wr).alloc (Nat.le_refl _) (.cells #[.string xk, .int .i64 xf, .int .i64 xt, .int .i64 xc, .int .i64 xg, .int .i64 xv, .int .i64 xz, .bool xb] 31)
    have ky := Blk.new wr 31 #[.string xk, .int .i64 xf, .int .i64 xt, .int .i64 xc, .int .i64 xg, .int .i64 xv, .int .i64 xz, .bool xb]
    have cs := (ba.cell (p := a.add (i * 9)) (by have := HF.out i hlt; obtain ⟨_, _, a', e, hal, _⟩ := this; cases e; rw [block_add]; have := HBW.out.size; omega)).trans c0
    have hny : ¬ wr.heap.size ∈ L.foot q ∧ ¬ wr.heap.size ∈ rf p A' := ⟨fun hm => by have := HBR.out.qs.lt _ hm; omega, fun hm => by have := HBR.out.ra.lt _ hm; omega⟩
    obtain ⟨ws, hws⟩ : ∃ z, wr.alloc (.cells #[.string xk, .int .i64 xf, .int .i64 xt, .int .i64 xc, .int .i64 xg, .int .i64 xv, .int .i64 xz, .bool xb] 31) = z := ⟨_, rfl⟩
    obtain ⟨Y, hY⟩ : ∃ z, wr.heap.size = z := ⟨_, rfl⟩
    rw [hws] at ba ky cs
    rw [hY] at ky hny
    have HBS := hide (HBR.out.below ba)
    have HBL := hide (HBW.out.trans (ba.mono HBR.out.size))
    have HNY := hide hny
    have KY := hide ky
    have HWS := hide hws
    have HY := hide hY
    clear ba ky hws hY hny hc hx hlt k0 k1
    go_upto_region 6 with (fail)
    rw [HWS.out, HY.out]
    clear HWS HY c0 c1 c2 c3 c4 c5 c6 c7 c8
    have c0 := cs
    clear cs
    have y0 : ws.cell? ⟨Y, 0, none⟩ = some (.string xk) := KY.out.cell 0
    have y1 : ws.cell? ⟨Y, 1, none⟩ = some (.int .i64 xf) := KY.out.cell 1
    have y2 : ws.cell? ⟨Y, 2, none⟩ = some (.int .i64 xt) := KY.out.cell 2
    have y3 : ws.cell? ⟨Y, 3, none⟩ = some (.int .i64 xc) := KY.out.cell 3
    have y4 : ws.cell? ⟨Y, 4, none⟩ = some (.int .i64 xg) := KY.out.cell 4
    have y5 : ws.cell? ⟨Y, 5, none⟩ = some (.int .i64 xv) := KY.out.cell 5
    have y6 : ws.cell? ⟨Y, 6, none⟩ = some (.int .i64 xz) := KY.out.cell 6
    have y7 : ws.cell? ⟨Y, 7, none⟩ = some (.bool xb) := KY.out.cell 7
    rcases RM.out with hm | hm | hm | hm
    · have Q1 := hide (Send_c HBS.out.qs ⟨xk, xf, xt, xc, xg, xv, xz, xb⟩ (by have := HLL.out; have := HNL.out; have := HLT.out; omega))
      go_wp2_with fail
      refine Q1.out.mono ?_
      rintro e w5 ⟨rfl, hg5⟩
      obtain ⟨L5, hb5, hk5⟩ := HBS.out.goQ hg5
      have hs5 : ws.heap.size ≤ w5.heap.size := by obtain ⟨_, _, hch, _⟩ := hg5; exact hch.size
      have ky5 : Blk w5 Y 31 #[.string xk, .int .i64 xf, .int .i64 xt, .int .i64 xc, .int .i64 xg, .int .i64 xv, .int .i64 xz, .bool xb] := by
        obtain ⟨_, _, hch, _⟩ := hg5
        exact (hch.block Y KY.out.lt HNY.out.1).trans KY.out
      have HB5 := hide hb5
      have HK5 := hide (HBL.out.trans hk5)
      have KY5 := hide ky5
      have R1 := hide (Send_b hb5.ra ⟨xk, xf, xt, xc, xg, xv, xz, xb⟩ (by have := HLL.out; have := HNL.out; have := HLT.out; omega))
      clear hg5 hb5 hk5 ky5 Q1 y0 y1 y2 y3 y4 y5 y6 y7 c0
      have y0 : w5.cell? ⟨Y, 0, none⟩ = some (.string xk) := KY5.out.cell 0
      have y1 : w5.cell? ⟨Y, 1, none⟩ = some (.int .i64 xf) := KY5.out.cell 1
      have y2 : w5.cell? ⟨Y, 2, none⟩ = some (.int .i64 xt) := KY5.out.cell 2
      have y3 : w5.cell? ⟨Y, 3, none⟩ = some (.int .i64 xc) := KY5.out.cell 3
      have y4 : w5.cell? ⟨Y, 4, none⟩ = some (.int .i64 xg) := KY5.out.cell 4
      have y5 : w5.cell? ⟨Y, 5, none⟩ = some (.int .i64 xv) := KY5.out.cell 5
      have y6 : w5.cell? ⟨Y, 6, none⟩ = some (.int .i64 xz) := KY5.out.cell 6
      have y7 : w5.cell? ⟨Y, 7, none⟩ = some (.bool xb) := KY5.out.cell 7
      go_wp2_with fail
      refine R1.out.mono ?_
      rintro e w6 ⟨rfl, hg6⟩
      obtain ⟨A6, hb6, hk6⟩ := HB5.out.goR hg6
      have HB6 := hide hb6
      have HK6 := hide (HK5.out.trans hk6)
      have HL6 := hide (show (sendL l ⟨xk, xf, xt, xc, xg, xv, xz, xb⟩).length ≤ i + 1 by have := sendL_len l ⟨xk, xf, xt, xc, xg, xv, xz, xb⟩; have := HLL.out; omega)
      clear hg6 hb6 hk6 R1 y0 y1 y2 y3 y4 y5 y6 y7
      go_wp2_with fail
      go_roundw
      case rel => exact ⟨i + 1, L5, A6, (sendL l ⟨xk, xf, xt, xc, xg, xv, xz, xb⟩), HLT.out, by go_num, HL6, HB6, HK6⟩
      case measure => have := HLT.out; simp [RowKit.intOf] <;> omega
    · have Q1 := hide (Send_c HBS.out.qs ⟨xk, xf, xt, xc, xg, xv, xz, xb⟩ (by have := HLL.out; have := HNL.out; have := HLT.out; omega))
      go_wp2_with fail
      refine Q1.out.mono ?_
      rintro e w5 ⟨rfl, hg5⟩
      obtain ⟨L5, hb5, hk5⟩ := HBS.out.goQ hg5
      have hs5 : ws.heap.size ≤ w5.heap.size := by obtain ⟨_, _, hch, _⟩ := hg5; exact hch.size
      have ky5 : Blk w5 Y 31 #[.string xk, .int .i64 xf, .int .i64 xt, .int .i64 xc, .int .i64 xg, .int .i64 xv, .int .i64 xz, .bool xb] := by
        obtain ⟨_, _, hch, _⟩ := hg5
        exact (hch.block Y KY.out.lt HNY.out.1).trans KY.out
      have HB5 := hide hb5
      have HK5 := hide (HBL.out.trans hk5)
      have KY5 := hide ky5
      have R1 := hide (Send_b hb5.ra ⟨xk, xf, xt, xc, xg, xv, xz, xb⟩ (by have := HLL.out; have := HNL.out; have := HLT.out; omega))
      clear hg5 hb5 hk5 ky5 Q1 y0 y1 y2 y3 y4 y5 y6 y7 c0
      have y0 : w5.cell? ⟨Y, 0, none⟩ = some (.string xk) := KY5.out.cell 0
      have y1 : w5.cell? ⟨Y, 1, none⟩ = some (.int .i64 xf) := KY5.out.cell 1
      have y2 : w5.cell? ⟨Y, 2, none⟩ = some (.int .i64 xt) := KY5.out.cell 2
      have y3 : w5.cell? ⟨Y, 3, none⟩ = some (.int .i64 xc) := KY5.out.cell 3
      have y4 : w5.cell? ⟨Y, 4, none⟩ = some (.int .i64 xg) := KY5.out.cell 4
      have y5 : w5.cell? ⟨Y, 5, none⟩ = some (.int .i64 xv) := KY5.out.cell 5
      have y6 : w5.cell? ⟨Y, 6, none⟩ = some (.int .i64 xz) := KY5.out.cell 6
      have y7 : w5.cell? ⟨Y, 7, none⟩ = some (.bool xb) := KY5.out.cell 7
      go_wp2_with fail
      refine R1.out.mono ?_
      rintro e w6 ⟨rfl, hg6⟩
      obtain ⟨A6, hb6, hk6⟩ := HB5.out.goR hg6
      have HB6 := hide hb6
      have HK6 := hide (HK5.out.trans hk6)
      have HL6 := hide (show (sendL l ⟨xk, xf, xt, xc, xg, xv, xz, xb⟩).length ≤ i + 1 by have := sendL_len l ⟨xk, xf, xt, xc, xg, xv, xz, xb⟩; have := HLL.out; omega)
      clear hg6 hb6 hk6 R1 y0 y1 y2 y3 y4 y5 y6 y7
      go_wp2_with fail
      go_roundw
      case rel => exact ⟨i + 1, L5, A6, (sendL l ⟨xk, xf, xt, xc, xg, xv, xz, xb⟩), HLT.out, by go_num, HL6, HB6, HK6⟩
      case measure => have := HLT.out; simp [RowKit.intOf] <;> omega
    · have Q1 := hide (Take_c HBS.out.qs ⟨xf, xc⟩ (by have := HLL.out; have := HNL.out; have := HLT.out; omega))
      go_wp2_with fail
      refine Q1.out.mono ?_
      rintro e w5 ⟨rfl, hg5⟩
      obtain ⟨L5, hb5, hk5⟩ := HBS.out.goQ hg5
      have hs5 : ws.heap.size ≤ w5.heap.size := by obtain ⟨_, _, hch, _⟩ := hg5; exact hch.size
      have ky5 : Blk w5 Y 31 #[.string xk, .int .i64 xf, .int .i64 xt, .int .i64 xc, .int .i64 xg, .int .i64 xv, .int .i64 xz, .bool xb] := by
        obtain ⟨_, _, hch, _⟩ := hg5
        exact (hch.block Y KY.out.lt HNY.out.1).trans KY.out
      have HB5 := hide hb5
      have HK5 := hide (HBL.out.trans hk5)
      have KY5 := hide ky5
      have R1 := hide (Take_b hb5.ra ⟨xf, xc⟩ (by have := HLL.out; have := HNL.out; have := HLT.out; omega))
      clear hg5 hb5 hk5 ky5 Q1 y0 y1 y2 y3 y4 y5 y6 y7 c0
      have y0 : w5.cell? ⟨Y, 0, none⟩ = some (.string xk) := KY5.out.cell 0
      have y1 : w5.cell? ⟨Y, 1, none⟩ = some (.int .i64 xf) := KY5.out.cell 1
      have y2 : w5.cell? ⟨Y, 2, none⟩ = some (.int .i64 xt) := KY5.out.cell 2
      have y3 : w5.cell? ⟨Y, 3, none⟩ = some (.int .i64 xc) := KY5.out.cell 3
      have y4 : w5.cell? ⟨Y, 4, none⟩ = some (.int .i64 xg) := KY5.out.cell 4
      have y5 : w5.cell? ⟨Y, 5, none⟩ = some (.int .i64 xv) := KY5.out.cell 5
      have y6 : w5.cell? ⟨Y, 6, none⟩ = some (.int .i64 xz) := KY5.out.cell 6
      have y7 : w5.cell? ⟨Y, 7, none⟩ = some (.bool xb) := KY5.out.cell 7
      go_wp2_with fail
      refine R1.out.mono ?_
      rintro e w6 ⟨rfl, hg6⟩
      obtain ⟨A6, hb6, hk6⟩ := HB5.out.goR hg6
      have HB6 := hide hb6
      have HK6 := hide (HK5.out.trans hk6)
      have HL6 := hide (show (takeL l ⟨xf, xc⟩).length ≤ i + 1 by have := takeL_len l ⟨xf, xc⟩; have := HLL.out; omega)
      clear hg6 hb6 hk6 R1 y0 y1 y2 y3 y4 y5 y6 y7
      go_wp2_with fail
      go_roundw
      case rel => exact ⟨i + 1, L5, A6, (takeL l ⟨xf, xc⟩), HLT.out, by go_num, HL6, HB6, HK6⟩
      case measure => have := HLT.out; simp [RowKit.intOf] <;> omega
    · have Q1 := hide (Send_c HBS.out.qs ⟨xk, xf, xt, xc, xg, xv, xz, xb⟩ (by have := HLL.out; have := HNL.out; have := HLT.out; omega))
      go_wp2_with fail
      refine Q1.out.mono ?_
      rintro e w5 ⟨rfl, hg5⟩
      obtain ⟨L5, hb5, hk5⟩ := HBS.out.goQ hg5
      have hs5 : ws.heap.size ≤ w5.heap.size := by obtain ⟨_, _, hch, _⟩ := hg5; exact hch.size
      have ky5 : Blk w5 Y 31 #[.string xk, .int .i64 xf, .int .i64 xt, .int .i64 xc, .int .i64 xg, .int .i64 xv, .int .i64 xz, .bool xb] := by
        obtain ⟨_, _, hch, _⟩ := hg5
        exact (hch.block Y KY.out.lt HNY.out.1).trans KY.out
      have HB5 := hide hb5
      have HK5 := hide (HBL.out.trans hk5)
      have KY5 := hide ky5
      have R1 := hide (Send_b hb5.ra ⟨xk, xf, xt, xc, xg, xv, xz, xb⟩ (by have := HLL.out; have := HNL.out; have := HLT.out; omega))
      clear hg5 hb5 hk5 ky5 Q1 y0 y1 y2 y3 y4 y5 y6 y7 c0
      have y0 : w5.cell? ⟨Y, 0, none⟩ = some (.string xk) := KY5.out.cell 0
      have y1 : w5.cell? ⟨Y, 1, none⟩ = some (.int .i64 xf) := KY5.out.cell 1
      have y2 : w5.cell? ⟨Y, 2, none⟩ = some (.int .i64 xt) := KY5.out.cell 2
      have y3 : w5.cell? ⟨Y, 3, none⟩ = some (.int .i64 xc) := KY5.out.cell 3
      have y4 : w5.cell? ⟨Y, 4, none⟩ = some (.int .i64 xg) := KY5.out.cell 4
      have y5 : w5.cell? ⟨Y, 5, none⟩ = some (.int .i64 xv) := KY5.out.cell 5
      have y6 : w5.cell? ⟨Y, 6, none⟩ = some (.int .i64 xz) := KY5.out.cell 6
      have y7 : w5.cell? ⟨Y, 7, none⟩ = some (.bool xb) := KY5.out.cell 7
      go_wp2_with fail
      refine R1.out.mono ?_
      rintro e w6 ⟨rfl, hg6⟩
      obtain ⟨A6, hb6, hk6⟩ := HB5.out.goR hg6
      have HB6 := hide hb6
      have HK6 := hide (HK5.out.trans hk6)
      have HL6 := hide (show (sendL l ⟨xk, xf, xt, xc, xg, xv, xz, xb⟩).length ≤ i + 1 by have := sendL_len l ⟨xk, xf, xt, xc, xg, xv, xz, xb⟩; have := HLL.out; omega)
      clear hg6 hb6 hk6 R1 y0 y1 y2 y3 y4 y5 y6 y7
      go_wp2_with fail
      go_roundw
      case rel => exact ⟨i + 1, L5, A6, (sendL l ⟨xk, xf, xt, xc, xg, xv, xz, xb⟩), HLT.out, by go_num, HL6, HB6, HK6⟩
      case measure => have := HLT.out; simp [RowKit.intOf] <;> omega
end Qu
end Go.Proofs.Ytomladbdebfikaa
