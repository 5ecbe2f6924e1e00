/- The walk of the statement QueueApart: of any acts; without conditions. -/
import Derived.Test.YtomladbdebfikaaRows
import Derived.Test.YtomladbdebfikaaQuXg
namespace Go.Proofs.Ytomladbdebfikaa.QueueApartW
open Go Go.Joins Go.ChangeShapes Go.WideShapes Go.RowKit Go.Deep Go.Lib Go.Proofs.Ytomladbdebfikaa Go.Proofs.Ytomladbdebfikaa.Qu
set_option linter.unusedVariables false
set_option linter.unusedSimpArgs false
/-- The world in the midst of a round: the queue, the message, what was first, what was left. -/
structure Mid (W w : World) (q X13 X14 C np c5 nl : Nat) (yc : Array Value) (A5 : Option Addr) (pk : List Msg) (c : Chan) (m : Msg) (L : QL) (l : List Msg) : Prop where
  q1 : Q1 w W.heap.size q L l
  k13 : Blk w X13 31 (msgC m).toArray
  k14 : Blk w X14 31 yc
  own : w.ownsRow C 31 8 (.slice A5 np c5) np (msgCs pk)
  off : ¬ m.ch = c → picked l c = pk
  len : l.length ≤ nl
  bl : Below W.heap.size W w
set_option maxRecDepth 100000 in
set_option maxHeartbeats 32000000 in
theorem walk {H : Type} {enc : TypeId × Value → H} {base : Nat} (W : World) (v0 : Value) (d0 : DataW H) (p0 : List MemPlace) (o0 : Value.okWide Try.prog W .any base 22 v0) (r0 : DataW.Trod enc Try.prog W 0 (fun _ => true) true 22 v0 d0 p0) (a1 : ByteArray) (w1 : a1.size ≤ maxLen) (a2 : Int) (w2 : (Lit.int .i64 a2).wf = true) (a3 : Int) (w3 : (Lit.int .i64 a3).wf = true) (a4 : Int) (w4 : (Lit.int .i64 a4).wf = true) :
    Calls Try.prog 6 #[v0, .string a1, .int .i64 a2, .int .i64 a3, .int .i64 a4] W fun e w' => e = .returned (.bool true) ∧ Below W.heap.size W w' := by
  obtain ⟨A, n, cap, F, rfl, hn, hF⟩ := acts_of o0 r0
  have AW := hide (awake_c W)
  have GR := hide (fun (w : World) (h : Acts w A n F) => Great_c cap h)
  have HF := hide hF
  have HM := hide w1
  have HMX := hide (show maxLen = 4611686018427387903 ∨ True from .inr trivial)
  clear o0 r0 hF w1 w2 w3 w4 hn
  go_enter Try.func6, Try.ntmps6
  go_wp2_with fail
  refine AW.out.mono ?_
  rintro e wa ⟨rfl, hba⟩
  have HBA := hide hba
  have G1 := hide (GR.out wa (HF.out.below hba))
  clear hba AW
  by_cases hk : 100 < a1.size
  · have kI : (100 : Int) < (a1.size : Int) := by omega
    clear hk
    cases hg : grt n F with
    | true =>
      rw [hg] at G1
      go_wp2_with fail
      refine G1.out.mono ?_
      rintro e w2 ⟨rfl, hw2⟩
      subst hw2
      go_wp2_with fail
      go_ret
      exact ⟨rfl, HBA.out⟩
    | false =>
      rw [hg] at G1
      go_wp2_with fail
      refine G1.out.mono ?_
      rintro e w2 ⟨rfl, hw2⟩
      subst hw2
      go_wp2_with fail
      go_ret
      exact ⟨rfl, HBA.out⟩
  have kI : ¬ (100 : Int) < (a1.size : Int) := by omega
  clear hk
  cases hg : grt n F with
  | true =>
    rw [hg] at G1
    go_wp2_with fail
    refine G1.out.mono ?_
    rintro e w2 ⟨rfl, hw2⟩
    subst hw2
    go_wp2_with fail
    go_ret
    exact ⟨rfl, HBA.out⟩
  | false =>
  rw [hg] at G1
  have hn2 : n ≤ 200 := by
    unfold grt at hg
    simp at hg
    omega
  have HN2 := hide hn2
  clear hg hn2
  go_wp2_with fail
  refine G1.out.mono ?_
  rintro e w2 ⟨rfl, hw2⟩
  subst hw2
  have NC := hide (New_c wa)
  go_wp2_with fail
  refine NC.out.mono ?_
  rintro e wn ⟨q, L0, rfl, hq, hfo, hbn⟩
  have hbw := HBA.out.trans (hbn.mono HBA.out.size)
  have HQ0 := hide (show Q1 wn W.heap.size q L0 [] from ⟨hq, fun b hb => Nat.le_trans HBA.out.size (hfo b hb)⟩)
  have HB0 := hide hbw
  clear hq hfo hbn hbw NC G1 kI
  go_wp2_with fail
  go_loopw [12, 13, 14, 15, 16, 17, 18, 19, 20] (fun v12 _ _ _ _ _ _ _ _ wr => ∃ (i : Nat) (l : List Msg) (L : QL), i ≤ n ∧ v12 = .int .i64 i ∧ Hid (l.length ≤ i) ∧ Hid (Q1 wr W.heap.size q L l) ∧ Hid (Below W.heap.size W wr)) (fun v12 _ _ _ _ _ _ _ _ _ => n - (RowKit.intOf v12).toNat)
  case atStart => exact ⟨0, [], L0, Nat.zero_le _, rfl, hide (Nat.le_refl _), HQ0, HB0⟩
  case round =>
    obtain ⟨i, l, L, hi, rfl, HLL, HQR, HBW⟩ := hrel
    rename World => wr
    have hn1 := HN2.out
    by_cases hlt : i < n
    rotate_left
    · have hltI : ¬ (i : Int) < (n : Int) := by omega
      clear hlt
      go_wp2_with fail
      go_ret
      exact ⟨rfl, HBW.out⟩
    have hltI : (i : Int) < (n : Int) := by omega
    have hge : (0 : Int) ≤ (i : Int) := by omega
    obtain ⟨a, rfl, k0, k1, c0, hc⟩ := (HF.out.below HBW.out).cells hlt
    have HAL := hide (show a.block < W.heap.size by obtain ⟨_, _, a', e, hal, _⟩ := HF.out i hlt; cases e; exact hal)
    obtain ⟨x, hx⟩ : ∃ z, F i = z := ⟨_, rfl⟩
    rw [hx] at k0 k1 c0 hc
    obtain ⟨kind, ⟨xk, xf, xt, xc, xg, xv, xz, xb⟩⟩ := x
    simp only at k0 k1 c0 hc
    have c1 : wr.cell? ⟨(a.add (i * 9)).block, (a.add (i * 9)).off + 1, none⟩ = some (.string xk) := hc 0 _ rfl
    have c2 : wr.cell? ⟨(a.add (i * 9)).block, (a.add (i * 9)).off + 2, none⟩ = some (.int .i64 xf) := hc 1 _ rfl
    have c3 : wr.cell? ⟨(a.add (i * 9)).block, (a.add (i * 9)).off + 3, none⟩ = some (.int .i64 xt) := hc 2 _ rfl
    have c4 : wr.cell? ⟨(a.add (i * 9)).block, (a.add (i * 9)).off + 4, none⟩ = some (.int .i64 xc) := hc 3 _ rfl
    have c5 : wr.cell? ⟨(a.add (i * 9)).block, (a.add (i * 9)).off + 5, none⟩ = some (.int .i64 xg) := hc 4 _ rfl
    have c6 : wr.cell? ⟨(a.add (i * 9)).block, (a.add (i * 9)).off + 6, none⟩ = some (.int .i64 xv) := hc 5 _ rfl
    have c7 : wr.cell? ⟨(a.add (i * 9)).block, (a.add (i * 9)).off + 7, none⟩ = some (.int .i64 xz) := hc 6 _ rfl
    have c8 : wr.cell? ⟨(a.add (i * 9)).block, (a.add (i * 9)).off + 8, none⟩ = some (.bool xb) := hc 7 _ rfl
    have HLT := hide hlt
    have RM := hide (rem4 k0)
    have HK0 := hide (show ∀ wx, Below wr.heap.size wr wx ∨ Below W.heap.size wr wx → wx.cell? (a.add (i * 9)) = some (.int .u8 kind) from fun wx hb => by
      rcases hb with hb | hb
      · exact (hb.cell (p := a.add (i * 9)) (by rw [Qu.block_add]; have := HAL.out; have := HBW.out.size; omega)).trans c0
      · exact (hb.cell (p := a.add (i * 9)) (by rw [Qu.block_add]; exact HAL.out)).trans c0)
    -- the message's box
    have ba := (Below.refl wr.heap.size wr).alloc (Nat.le_refl _) (.cells #[.string xk, .int .i64 xf, .int .i64 xt, .int .i64 xc, .int .i64 xg, .int .i64 xv, .int .i64 xz, .bool xb] 31)
    have kx := Blk.new wr 31 #[.string xk, .int .i64 xf, .int .i64 xt, .int .i64 xc, .int .i64 xg, .int .i64 xv, .int .i64 xz, .bool xb]
    obtain ⟨w3, hw3⟩ : ∃ z, wr.alloc (.cells #[.string xk, .int .i64 xf, .int .i64 xt, .int .i64 xc, .int .i64 xg, .int .i64 xv, .int .i64 xz, .bool xb] 31) = z := ⟨_, rfl⟩
    obtain ⟨X13, hX⟩ : ∃ z, wr.heap.size = z := ⟨_, rfl⟩
    have hf13 : ¬ X13 ∈ L.foot q := fun hm => by have := HQR.out.qs.lt X13 hm; omega
    rw [hw3] at ba kx
    have HB3 := hide ba
    have HQ3 := hide (HQR.out.below ba)
    have HBW3 := hide (HBW.out.trans (ba.mono HBW.out.size))
    rw [hX] at kx
    have K13 := hide kx
    have F13 := hide hf13
    have HX13 := hide (show W.heap.size ≤ X13 from by have := HBW.out.size; omega)
    have HE := hide (And.intro hw3 hX)
    clear ba kx hw3 hX hf13 hc hx hlt k0 k1
    go_upto_region 10 with (fail)
    rw [HE.out.1, HE.out.2]
    clear HE c0 c1 c2 c3 c4 c5 c6 c7 c8
    -- what is first
    obtain ⟨⟨yk, yf, yt, yc, yg, yv, yz, yb⟩, hy⟩ : ∃ z, (firstL l ⟨a1, a2, a3⟩ a4).getD m0 = z := ⟨_, rfl⟩
    obtain ⟨gb, hgb⟩ : ∃ z, (firstL l ⟨a1, a2, a3⟩ a4).isSome = z := ⟨_, rfl⟩
    have HY := hide (And.intro hy hgb)
    have FC : Hid (∀ wx L' l', Q1 wx W.heap.size q L' l' → l'.length ≤ 1000 → firstL l' ⟨a1, a2, a3⟩ a4 = firstL l ⟨a1, a2, a3⟩ a4 → Calls Try.prog 22 #[.pointer (some ⟨q, 0, none⟩), .string a1, .int .i64 a2, .int .i64 a3, .int .i64 a4] wx fun e w' => e = .returned (.tuple #[.agg #[.string yk, .int .i64 yf, .int .i64 yt, .int .i64 yc, .int .i64 yg, .int .i64 yv, .int .i64 yz, .bool yb], .bool gb]) ∧ Below wx.heap.size wx w') := hide (fun wx L' l' hb hl he => by
      have := First_c hb.qs ⟨a1, a2, a3⟩ a4 hl
      unfold tellV at this
      rw [he, hy, hgb] at this
      exact this)
    have F1 := hide (FC.out w3 L l HQ3.out (by have := HLL.out; omega) rfl)
    clear hy hgb
    go_wp2_with fail
    refine F1.out.mono ?_
    rintro e w4 ⟨rfl, hb4⟩
    have ba := (Below.refl w4.heap.size w4).alloc (Nat.le_refl _) (.cells #[.string yk, .int .i64 yf, .int .i64 yt, .int .i64 yc, .int .i64 yg, .int .i64 yv, .int .i64 yz, .bool yb] 31)
    have kx := Blk.new w4 31 #[.string yk, .int .i64 yf, .int .i64 yt, .int .i64 yc, .int .i64 yg, .int .i64 yv, .int .i64 yz, .bool yb]
    obtain ⟨w5, hw5⟩ : ∃ z, w4.alloc (.cells #[.string yk, .int .i64 yf, .int .i64 yt, .int .i64 yc, .int .i64 yg, .int .i64 yv, .int .i64 yz, .bool yb] 31) = z := ⟨_, rfl⟩
    obtain ⟨X14, hX⟩ : ∃ z, w4.heap.size = z := ⟨_, rfl⟩
    have hq4 := HQ3.out.below hb4
    have hn1314 : X13 ≠ X14 := by have := K13.out.lt; have := hb4.size; omega
    have hf14 : ¬ X14 ∈ L.foot q := fun hm => by have := hq4.qs.lt X14 hm; omega
    rw [hw5] at ba kx
    have hbx := hb4.trans (ba.mono hb4.size)
    rw [hX] at kx
    have HQ5 := hide (HQ3.out.below hbx)
    have HBW5 := hide (HBW3.out.trans (hbx.mono HBW3.out.size))
    have HB5 := hide (HB3.out.trans (hbx.mono HB3.out.size))
    have K13 := hide (K13.out.below hbx K13.out.lt)
    have K14 := hide kx
    have F14 := hide hf14
    have HNX := hide (show X13 ≠ X14 from hn1314)
    have HE := hide (And.intro hw5 hX)
    clear hb4 ba kx hw5 hX hq4 hf14 hn1314 hbx F1
    go_upto_region 11 with (fail)
    rw [HE.out.1, HE.out.2]
    clear HE
    -- what is left
    obtain ⟨pk, hpk⟩ : ∃ z, picked l ⟨a1, a2, a3⟩ = z := ⟨_, rfl⟩
    obtain ⟨np, hnp⟩ : ∃ z, pk.length = z := ⟨_, rfl⟩
    have HPK := hide hpk
    have HNP := hide hnp
    have hpl : np ≤ 200 := by
      have : (picked l ⟨a1, a2, a3⟩).length ≤ l.length := List.length_filter_le _ _
      rw [hpk, hnp] at this
      have := HLL.out
      omega
    have HPL := hide hpl
    have LC : Hid (∀ wx L' l', Q1 wx W.heap.size q L' l' → l'.length ≤ 300 → Calls Try.prog 16 #[.pointer (some ⟨q, 0, none⟩)] wx fun e w' => ∃ A1 c1 nk K, e = .returned (.slice A1 nk c1) ∧ Hid (K.length = nk) ∧ Hid (nk ≤ 300) ∧ Hid (ofL K ⟨a1, a2, a3⟩ = picked l' ⟨a1, a2, a3⟩) ∧ Hid (MRow w' A1 K) ∧ Below wx.heap.size wx w') := hide (fun wx L' l' hb hl => by
      refine (Left_c hb.qs (by omega)).mono ?_
      rintro e w' ⟨A1, c1, K, rfl, hk, hown, hbb⟩
      exact ⟨A1, c1, K.length, K, rfl, hide rfl, hide (by have := isLeft_len hk; omega), hide (ofL_left hk _), hide (MRow.of_own hown rfl), hbb⟩)
    have OC : Hid (∀ wx A1 c1 nk K l', Hid (K.length = nk) → Hid (nk ≤ 300) → Hid (ofL K ⟨a1, a2, a3⟩ = picked l' ⟨a1, a2, a3⟩) → Hid (MRow wx A1 K) → picked l' ⟨a1, a2, a3⟩ = pk → Calls Try.prog 30 #[.slice A1 nk c1, .string a1, .int .i64 a2, .int .i64 a3] wx fun e w' => ∃ A2 c2, e = .returned (.slice A2 np c2) ∧ Hid (w'.ownsRow wx.heap.size 31 8 (.slice A2 np c2) np (msgCs pk)) ∧ Below wx.heap.size wx w') := hide (fun wx A1 c1 nk K l' h1 h2 h3 h4 h5 => by
      refine (of_c A1 c1 nk K ⟨a1, a2, a3⟩ h4.out h1.out (by have := h2.out; omega)).mono ?_
      rintro e w' ⟨A2, c2, he, hown, hb⟩
      rw [h3.out, h5, HNP.out] at he hown
      exact ⟨A2, c2, he, hide hown, hb⟩)
    have L1 := hide (LC.out w5 L l HQ5.out (by have := HLL.out; omega))
    clear hpk hnp hpl
    go_wp2_with fail
    refine L1.out.mono ?_
    rintro e w6 ⟨A4, c4, nk, K, rfl, hk1, hk2, hk3, hk4, hb6⟩
    have K13L := hide (show X13 < w6.heap.size from Nat.lt_of_lt_of_le K13.out.lt hb6.size)
    have O1 := hide (OC.out w6 A4 c4 nk K l hk1 hk2 hk3 hk4 HPK.out)
    have HQ6 := hide (HQ5.out.below hb6)
    have HBW6 := hide (HBW5.out.trans (hb6.mono HBW5.out.size))
    have HB6 := hide (HB5.out.trans (hb6.mono HB5.out.size))
    have K13 := hide (K13.out.below hb6 K13.out.lt)
    have K14 := hide (K14.out.below hb6 K14.out.lt)
    clear hk1 hk2 hk3 hk4 hb6 L1
    go_wp2_with fail
    refine O1.out.mono ?_
    rintro e w7 ⟨A5, c5, rfl, hown5, hb7⟩
    have HQ7 := hide (HQ6.out.below hb7)
    have HBW7 := hide (HBW6.out.trans (hb7.mono HBW6.out.size))
    have HB7 := hide (HB6.out.trans (hb7.mono HB6.out.size))
    have K13 := hide (K13.out.below hb7 K13.out.lt)
    have K14 := hide (K14.out.below hb7 K14.out.lt)
    have OW5 := hide hown5
    have HXC0 := hide (show X13 < w6.heap.size from K13L.out)
    have CF := hide HQ6.out.qs.lt
    clear hb7 hown5 O1
    go_upto_region 12 with (fail)
    have ck : w7.cell? (a.add (i * 9)) = some (.int .u8 kind) := HK0.out w7 (.inl HB7.out)
    obtain ⟨C, hC⟩ : ∃ z, w6.heap.size = z := ⟨_, rfl⟩
    rw [hC] at OW5 HXC0
    have HXC := HXC0
    have CF : Hid (∀ b ∈ L.foot q, b < C) := by rw [hC] at CF; exact CF
    clear hC
    obtain ⟨tb, htb⟩ : ∃ b, (Int.tmod kind 4 == 2) = b := ⟨_, rfl⟩
    go_upto_if 63 with (fail)
    have HTB := hide htb
    clear htb
    go_cut [17, 18] from 64 to 83 (fun _ _ wx => ∃ (m' : Msg) (l' : List Msg) (L' : QL), Hid (Mid W wx q X13 X14 C np c5 (i + 1) #[.string yk, .int .i64 yf, .int .i64 yt, .int .i64 yc, .int .i64 yg, .int .i64 yv, .int .i64 yz, .bool yb] A5 pk ⟨a1, a2, a3⟩ m' L' l'))
    case first =>
      have y1 : w7.cell? ⟨X13, 1, none⟩ = some (.int .i64 xf) := K13.out.cell 1
      have y3 : w7.cell? ⟨X13, 3, none⟩ = some (.int .i64 xc) := K13.out.cell 3
      cases tb with
      | true =>
        -- taken
        obtain ⟨⟨zk, zf, zt, zc, zg, zv, zz, zb⟩, hz⟩ : ∃ z, (findL l ⟨xf, xc⟩).getD m0 = z := ⟨_, rfl⟩
        obtain ⟨ib, hib⟩ : ∃ z, (findL l ⟨xf, xc⟩).isSome = z := ⟨_, rfl⟩
        have HZ := hide (And.intro hz hib)
        have FD : Hid (Calls Try.prog 20 #[.pointer (some ⟨q, 0, none⟩), .int .i64 xf, .int .i64 xc] w7 fun e w' => e = .returned (.tuple #[.agg #[.string zk, .int .i64 zf, .int .i64 zt, .int .i64 zc, .int .i64 zg, .int .i64 zv, .int .i64 zz, .bool zb], .bool ib]) ∧ Below w7.heap.size w7 w') := hide (by
          have := Find_c HQ7.out.qs ⟨xf, xc⟩ (by have := HLL.out; omega)
          unfold tellV at this
          rw [hz, hib] at this
          exact this)
        clear hz hib
        go_wp2_with fail
        refine FD.out.mono ?_
        rintro e w8 ⟨rfl, hb8⟩
        have ba := (Below.refl w8.heap.size w8).alloc (Nat.le_refl _) (.cells #[.string zk, .int .i64 zf, .int .i64 zt, .int .i64 zc, .int .i64 zg, .int .i64 zv, .int .i64 zz, .bool zb] 31)
        have kx := Blk.new w8 31 #[.string zk, .int .i64 zf, .int .i64 zt, .int .i64 zc, .int .i64 zg, .int .i64 zv, .int .i64 zz, .bool zb]
        obtain ⟨w9, hw9⟩ : ∃ z, w8.alloc (.cells #[.string zk, .int .i64 zf, .int .i64 zt, .int .i64 zc, .int .i64 zg, .int .i64 zv, .int .i64 zz, .bool zb] 31) = z := ⟨_, rfl⟩
        obtain ⟨X17, hX⟩ : ∃ z, w8.heap.size = z := ⟨_, rfl⟩
        have hq8 := HQ7.out.below hb8
        have hf17 : ¬ X17 ∈ L.foot q := fun hm => by have := hq8.qs.lt X17 hm; omega
        have h1317 : X13 ≠ X17 := by have := K13.out.lt; have := hb8.size; omega
        rw [hw9] at ba kx
        have hbx := hb8.trans (ba.mono hb8.size)
        rw [hX] at kx
        have HQ9 := hide (HQ7.out.below hbx)
        have HBW9 := hide (HBW7.out.trans (hbx.mono HBW7.out.size))
        have K13 := hide (K13.out.below hbx K13.out.lt)
        have K14 := hide (K14.out.below hbx K14.out.lt)
        have OW5 := hide (own_belowR OW5.out hbx)
        have K17 := hide kx
        have F17 := hide hf17
        have HNE := hide h1317
        have HE := hide (And.intro hw9 hX)
        clear hb8 ba kx hw9 hX hq8 hf17 h1317 hbx FD y1 y3
        go_upto_region 14 with (fail)
        rw [HE.out.1, HE.out.2]
        clear HE
        have y1 : w9.cell? ⟨X13, 1, none⟩ = some (.int .i64 xf) := K13.out.cell 1
        have y3 : w9.cell? ⟨X13, 3, none⟩ = some (.int .i64 xc) := K13.out.cell 3
        have TC := hide (Take_c HQ9.out.qs ⟨xf, xc⟩ (by have := HLL.out; omega))
        go_wp2_with fail
        refine TC.out.mono ?_
        rintro e w10 ⟨rfl, hg⟩
        have hk13 := Goes.kept HQ9.out hg K13.out F13.out
        have hk14 := Goes.kept HQ9.out hg K14.out F14.out
        have hk17 := Goes.kept HQ9.out hg K17.out F17.out
        have how5 := Goes.own hg OW5.out CF.out
        have hgx := hg
        obtain ⟨L', hq', hch, hlo⟩ := hgx
        have hbw := hch.below HQ9.out.lo HQ9.out.size
        have hq1 : Q1 w10 W.heap.size q L' (takeL l ⟨xf, xc⟩) := ⟨hq', fun b hb => by
          rcases hlo b hb with h4 | h4
          · exact HQ9.out.lo b h4
          · have := HQ9.out.size; omega⟩
        have hf13 : ¬ X13 ∈ L'.foot q := fun hm => by
          rcases hlo X13 hm with h4 | h4
          · exact F13.out h4
          · have := K13.out.lt; omega
        have HQ10 := hide hq1
        have HBW10 := hide (HBW9.out.trans hbw)
        have K13 := hide hk13
        have K14 := hide hk14
        have K17 := hide hk17
        have OW5 := hide how5
        have F13b := hide hf13
        have HTL := hide (show (takeL l ⟨xf, xc⟩).length ≤ i + 1 by rw [takeL_len]; have := HLL.out; omega)
        clear hg hk13 hk14 hk17 how5 hq' hch hlo hbw hq1 hf13 TC y1 y3
        cases ib with
        | false =>
          have hnone : findL l ⟨xf, xc⟩ = none := by
            have := HZ.out.2
            cases hff : findL l ⟨xf, xc⟩ with
            | none => rfl
            | some z => rw [hff] at this; cases this
          have HMD := hide (show Mid W w10 q X13 X14 C np c5 (i + 1) #[.string yk, .int .i64 yf, .int .i64 yt, .int .i64 yc, .int .i64 yg, .int .i64 yv, .int .i64 yz, .bool yb] A5 pk ⟨a1, a2, a3⟩ ⟨xk, xf, xt, xc, xg, xv, xz, xb⟩ L' (takeL l ⟨xf, xc⟩) from ⟨HQ10.out, K13.out, K14.out, OW5.out, fun _ => by rw [take_none hnone]; exact HPK.out, HTL.out, HBW10.out⟩)
          clear hnone
          go_wp2_with fail
          go_meet
          exact ⟨_, _, _, HMD⟩
        | true =>
          have hsome : findL l ⟨xf, xc⟩ = some ⟨zk, zf, zt, zc, zg, zv, zz, zb⟩ := by
            have h2 := HZ.out.2
            have h1 := HZ.out.1
            cases hff : findL l ⟨xf, xc⟩ with
            | none => rw [hff] at h2; cases h2
            | some z => rw [hff] at h1; exact congrArg some h1
          have kz := put8 K13.out (.string zk) (.int .i64 zf) (.int .i64 zt) (.int .i64 zc) (.int .i64 zg) (.int .i64 zv) (.int .i64 zz) (.bool zb)
          have hch : Ch [X13] w10 ((((((((w10.setCell ⟨X13, 0, none⟩ (.string zk)).setCell ⟨X13, 1, none⟩ (.int .i64 zf)).setCell ⟨X13, 2, none⟩ (.int .i64 zt)).setCell ⟨X13, 3, none⟩ (.int .i64 zc)).setCell ⟨X13, 4, none⟩ (.int .i64 zg)).setCell ⟨X13, 5, none⟩ (.int .i64 zv)).setCell ⟨X13, 6, none⟩ (.int .i64 zz)).setCell ⟨X13, 7, none⟩ (.bool zb)) := ((((((((Ch.refl _ _).trans (Ch.set_ _ _ (by simp))).trans (Ch.set_ _ _ (by simp))).trans (Ch.set_ _ _ (by simp))).trans (Ch.set_ _ _ (by simp))).trans (Ch.set_ _ _ (by simp))).trans (Ch.set_ _ _ (by simp))).trans (Ch.set_ _ _ (by simp))).trans (Ch.set_ _ _ (by simp))
          obtain ⟨w11, hw11⟩ : ∃ z, ((((((((w10.setCell ⟨X13, 0, none⟩ (.string zk)).setCell ⟨X13, 1, none⟩ (.int .i64 zf)).setCell ⟨X13, 2, none⟩ (.int .i64 zt)).setCell ⟨X13, 3, none⟩ (.int .i64 zc)).setCell ⟨X13, 4, none⟩ (.int .i64 zg)).setCell ⟨X13, 5, none⟩ (.int .i64 zv)).setCell ⟨X13, 6, none⟩ (.int .i64 zz)).setCell ⟨X13, 7, none⟩ (.bool zb)) = z := ⟨_, rfl⟩
          rw [hw11] at kz hch
          have h1314 : ¬ X14 ∈ [X13] := fun hm => by rw [List.mem_singleton] at hm; rw [hm] at K14; exact HNX.out hm.symm
          have hq11 : Q1 w11 W.heap.size q L' (takeL l ⟨xf, xc⟩) := ⟨HQ10.out.qs.ch hch (fun b hb => by rw [List.mem_singleton.1 hb]; exact F13b.out), HQ10.out.lo⟩
          have hbl : Below W.heap.size W w11 := HBW10.out.trans (hch.below (fun j hj => by rw [List.mem_singleton.1 hj]; exact HX13.out) HBW10.out.size)
          have hown : w11.ownsRow C 31 8 (.slice A5 np c5) np (msgCs pk) := ⟨OW5.out.1, OW5.out.2.imp id fun ⟨g, cp, cur, hv, hge, hh, r⟩ => ⟨g, cp, cur, hv, hge, (hch.block g (Array.getElem?_eq_some_iff.1 hh).1 (fun hm => by rw [List.mem_singleton] at hm; have := HXC.out; omega)).trans hh, r⟩⟩
          have HMD := hide (show Mid W w11 q X13 X14 C np c5 (i + 1) #[.string yk, .int .i64 yf, .int .i64 yt, .int .i64 yc, .int .i64 yg, .int .i64 yv, .int .i64 yz, .bool yb] A5 pk ⟨a1, a2, a3⟩ ⟨zk, zf, zt, zc, zg, zv, zz, zb⟩ L' (takeL l ⟨xf, xc⟩) from ⟨hq11, kz, (hch.block X14 K14.out.lt h1314).trans K14.out, hown, fun hne => by rw [take_off (fun z hz => by rw [hsome] at hz; cases hz; exact hne)]; exact HPK.out, HTL.out, hbl⟩)
          have HW11 := hide hw11
          clear hsome kz hch hw11 h1314 hq11 hbl hown
          have u0 : w10.cell? ⟨X17, 0, none⟩ = some (.string zk) := K17.out.cell 0
          have u1 : w10.cell? ⟨X17, 1, none⟩ = some (.int .i64 zf) := K17.out.cell 1
          have u2 : w10.cell? ⟨X17, 2, none⟩ = some (.int .i64 zt) := K17.out.cell 2
          have u3 : w10.cell? ⟨X17, 3, none⟩ = some (.int .i64 zc) := K17.out.cell 3
          have u4 : w10.cell? ⟨X17, 4, none⟩ = some (.int .i64 zg) := K17.out.cell 4
          have u5 : w10.cell? ⟨X17, 5, none⟩ = some (.int .i64 zv) := K17.out.cell 5
          have u6 : w10.cell? ⟨X17, 6, none⟩ = some (.int .i64 zz) := K17.out.cell 6
          have u7 : w10.cell? ⟨X17, 7, none⟩ = some (.bool zb) := K17.out.cell 7
          have f0 := K13.out.frozen 0
          have f1 := K13.out.frozen 1
          have f2 := K13.out.frozen 2
          have f3 := K13.out.frozen 3
          have f4 := K13.out.frozen 4
          have f5 := K13.out.frozen 5
          have f6 := K13.out.frozen 6
          have f7 := K13.out.frozen 7
          have s0 : w10.cell? ⟨X13, 0, none⟩ = some (.string xk) := K13.out.cell 0
          have s1 : w10.cell? ⟨X13, 1, none⟩ = some (.int .i64 xf) := K13.out.cell 1
          have s2 : w10.cell? ⟨X13, 2, none⟩ = some (.int .i64 xt) := K13.out.cell 2
          have s3 : w10.cell? ⟨X13, 3, none⟩ = some (.int .i64 xc) := K13.out.cell 3
          have s4 : w10.cell? ⟨X13, 4, none⟩ = some (.int .i64 xg) := K13.out.cell 4
          have s5 : w10.cell? ⟨X13, 5, none⟩ = some (.int .i64 xv) := K13.out.cell 5
          have s6 : w10.cell? ⟨X13, 6, none⟩ = some (.int .i64 xz) := K13.out.cell 6
          have s7 : w10.cell? ⟨X13, 7, none⟩ = some (.bool xb) := K13.out.cell 7
          go_wp2_with fail
          rw [HW11.out]
          go_meet
          exact ⟨_, _, _, HMD⟩
      | false =>
        -- sent
        clear y1 y3
        have s0 : w7.cell? ⟨X13, 0, none⟩ = some (.string xk) := K13.out.cell 0
        have s1 : w7.cell? ⟨X13, 1, none⟩ = some (.int .i64 xf) := K13.out.cell 1
        have s2 : w7.cell? ⟨X13, 2, none⟩ = some (.int .i64 xt) := K13.out.cell 2
        have s3 : w7.cell? ⟨X13, 3, none⟩ = some (.int .i64 xc) := K13.out.cell 3
        have s4 : w7.cell? ⟨X13, 4, none⟩ = some (.int .i64 xg) := K13.out.cell 4
        have s5 : w7.cell? ⟨X13, 5, none⟩ = some (.int .i64 xv) := K13.out.cell 5
        have s6 : w7.cell? ⟨X13, 6, none⟩ = some (.int .i64 xz) := K13.out.cell 6
        have s7 : w7.cell? ⟨X13, 7, none⟩ = some (.bool xb) := K13.out.cell 7
        have SC := hide (Send_c HQ7.out.qs ⟨xk, xf, xt, xc, xg, xv, xz, xb⟩ (by have := HLL.out; omega))
        go_wp2_with fail
        refine SC.out.mono ?_
        rintro e w10 ⟨rfl, hg⟩
        have hk13 := Goes.kept HQ7.out hg K13.out F13.out
        have hk14 := Goes.kept HQ7.out hg K14.out F14.out
        have how5 := Goes.own hg OW5.out CF.out
        obtain ⟨L', hq', hbw⟩ := HQ7.out.go hg
        have HMD := hide (show Mid W w10 q X13 X14 C np c5 (i + 1) #[.string yk, .int .i64 yf, .int .i64 yt, .int .i64 yc, .int .i64 yg, .int .i64 yv, .int .i64 yz, .bool yb] A5 pk ⟨a1, a2, a3⟩ ⟨xk, xf, xt, xc, xg, xv, xz, xb⟩ L' (sendL l ⟨xk, xf, xt, xc, xg, xv, xz, xb⟩) from ⟨hq', hk13, hk14, how5, fun hne => by rw [send_off hne]; exact HPK.out, by have := sendL_len l ⟨xk, xf, xt, xc, xg, xv, xz, xb⟩; have := HLL.out; omega, HBW7.out.trans hbw⟩)
        clear hg hk13 hk14 how5 hq' hbw SC s0 s1 s2 s3 s4 s5 s6 s7
        go_wp2_with fail
        go_meet
        exact ⟨_, _, _, HMD⟩
    obtain ⟨⟨mk, mf, mt, mc, mg, mv, mz, mb⟩, l', L', HMD⟩ := hcut
    rename World => wc
    obtain ⟨hb, hhb⟩ : ∃ b, decide ((Msg.ch ⟨mk, mf, mt, mc, mg, mv, mz, mb⟩) = ⟨a1, a2, a3⟩) = b := ⟨_, rfl⟩
    have HHB := hide hhb
    have y0 : wc.cell? ⟨X13, 0, none⟩ = some (.string mk) := HMD.out.k13.cell 0
    have y1 : wc.cell? ⟨X13, 1, none⟩ = some (.int .i64 mf) := HMD.out.k13.cell 1
    have y2 : wc.cell? ⟨X13, 2, none⟩ = some (.int .i64 mt) := HMD.out.k13.cell 2
    clear hhb
    go_upto_region 18 with (fail)
    go_cut [99] from 84 to 98 (fun x wx => x = .bool hb ∧ wc = wx)
    case first =>
      by_cases hk : mk = a1
      rotate_left
      · have hs := str_ne hk
        have ho : hb = false := by rw [← HHB.out]; exact decide_eq_false fun e => hk (congrArg Chan.key e)
        clear hk
        go_wp2_with fail
        go_meet
        exact ⟨by rw [ho], rfl⟩
      have hs : (mk.toList == a1.toList) = true := by rw [hk]; simp
      by_cases hf : mf = a2
      rotate_left
      · have hs2 : (mf == a2) = false := by simpa using hf
        have ho : hb = false := by rw [← HHB.out]; exact decide_eq_false fun e => hf (congrArg Chan.fr e)
        clear hk hf
        go_wp2_with fail
        go_meet
        exact ⟨by rw [ho], rfl⟩
      have hs2 : (mf == a2) = true := by simpa using hf
      by_cases ht : mt = a3
      rotate_left
      · have hs3 : (mt == a3) = false := by simpa using ht
        have ho : hb = false := by rw [← HHB.out]; exact decide_eq_false fun e => ht (congrArg Chan.to e)
        clear hk hf ht
        go_wp2_with fail
        go_meet
        exact ⟨by rw [ho], rfl⟩
      have hs3 : (mt == a3) = true := by simpa using ht
      have ho : hb = true := by rw [← HHB.out]; exact decide_eq_true (by rw [hk, hf, ht]; rfl)
      clear hk hf ht
      go_wp2_with fail
      go_meet
      exact ⟨by rw [ho], rfl⟩
    obtain ⟨rfl, hwc⟩ := hcut
    subst hwc
    clear y0 y1 y2
    cases hb with
    | true =>
      go_wp2_with fail
      go_roundw
      case rel => exact ⟨i + 1, l', L', HLT.out, by go_num, hide HMD.out.len, hide HMD.out.q1, hide HMD.out.bl⟩
      case measure => have := HLT.out; simp [RowKit.intOf] <;> omega
    | false =>
      have HPL2 := hide (HMD.out.off (of_decide_eq_false HHB.out))
      have HLN2 := hide (show l'.length ≤ 201 by have := HMD.out.len; omega)
      have F2 := hide (FC.out wc L' l' HMD.out.q1 (by have := HLN2.out; omega) (by rw [first_picked, first_picked, HPL2.out, HPK.out]))
      go_wp2_with fail
      refine F2.out.mono ?_
      rintro e w13 ⟨rfl, hb13⟩
      have ba := (Below.refl w13.heap.size w13).alloc (Nat.le_refl _) (.cells #[.string yk, .int .i64 yf, .int .i64 yt, .int .i64 yc, .int .i64 yg, .int .i64 yv, .int .i64 yz, .bool yb] 31)
      have kx := Blk.new w13 31 #[.string yk, .int .i64 yf, .int .i64 yt, .int .i64 yc, .int .i64 yg, .int .i64 yv, .int .i64 yz, .bool yb]
      obtain ⟨w14, hw14⟩ : ∃ z, w13.alloc (.cells #[.string yk, .int .i64 yf, .int .i64 yt, .int .i64 yc, .int .i64 yg, .int .i64 yv, .int .i64 yz, .bool yb] 31) = z := ⟨_, rfl⟩
      obtain ⟨X19, hX⟩ : ∃ z, w13.heap.size = z := ⟨_, rfl⟩
      rw [hw14] at ba kx
      have hbx := hb13.trans (ba.mono hb13.size)
      rw [hX] at kx
      have HQ14 := hide (HMD.out.q1.below hbx)
      have HBW14 := hide (HMD.out.bl.trans (hbx.mono HMD.out.bl.size))
      have K14 := hide (HMD.out.k14.below hbx HMD.out.k14.lt)
      have K19 := hide kx
      have OW5 := hide (own_belowR HMD.out.own hbx)
      have HE := hide (And.intro hw14 hX)
      clear hb13 ba kx hw14 hX hbx F2
      go_upto_region 20 with (fail)
      rw [HE.out.1, HE.out.2]
      clear HE
      have u0 : w14.cell? ⟨X14, 0, none⟩ = some (.string yk) := K14.out.cell 0
      have u1 : w14.cell? ⟨X14, 1, none⟩ = some (.int .i64 yf) := K14.out.cell 1
      have u2 : w14.cell? ⟨X14, 2, none⟩ = some (.int .i64 yt) := K14.out.cell 2
      have u3 : w14.cell? ⟨X14, 3, none⟩ = some (.int .i64 yc) := K14.out.cell 3
      have u4 : w14.cell? ⟨X14, 4, none⟩ = some (.int .i64 yg) := K14.out.cell 4
      have u5 : w14.cell? ⟨X14, 5, none⟩ = some (.int .i64 yv) := K14.out.cell 5
      have u6 : w14.cell? ⟨X14, 6, none⟩ = some (.int .i64 yz) := K14.out.cell 6
      have u7 : w14.cell? ⟨X14, 7, none⟩ = some (.bool yb) := K14.out.cell 7
      have s0 : w14.cell? ⟨X19, 0, none⟩ = some (.string yk) := K19.out.cell 0
      have s1 : w14.cell? ⟨X19, 1, none⟩ = some (.int .i64 yf) := K19.out.cell 1
      have s2 : w14.cell? ⟨X19, 2, none⟩ = some (.int .i64 yt) := K19.out.cell 2
      have s3 : w14.cell? ⟨X19, 3, none⟩ = some (.int .i64 yc) := K19.out.cell 3
      have s4 : w14.cell? ⟨X19, 4, none⟩ = some (.int .i64 yg) := K19.out.cell 4
      have s5 : w14.cell? ⟨X19, 5, none⟩ = some (.int .i64 yv) := K19.out.cell 5
      have s6 : w14.cell? ⟨X19, 6, none⟩ = some (.int .i64 yz) := K19.out.cell 6
      have s7 : w14.cell? ⟨X19, 7, none⟩ = some (.bool yb) := K19.out.cell 7
      have hs := str_eq yk
      have L2 := hide (LC.out w14 L' l' HQ14.out (by have := HLN2.out; omega))
      go_wp2_with fail
      refine L2.out.mono ?_
      rintro e w15 ⟨A6, c6, nk2, K2, rfl, hk1, hk2, hk3, hk4, hb15⟩
      have O2 := hide (OC.out w15 A6 c6 nk2 K2 l' hk1 hk2 hk3 hk4 HPL2.out)
      have HQ15 := hide (HQ14.out.below hb15)
      have HBW15 := hide (HBW14.out.trans (hb15.mono HBW14.out.size))
      have OW5 := hide (own_belowR OW5.out hb15)
      clear hk1 hk2 hk3 hk4 hb15 L2 u0 u1 u2 u3 u4 u5 u6 u7 s0 s1 s2 s3 s4 s5 s6 s7 hs
      go_wp2_with fail
      refine O2.out.mono ?_
      rintro e w16 ⟨A7, c7, rfl, hown7, hb16⟩
      have SC := hide (Same_b A5 A7 c5 c7 np pk (MRow.of_own (own_belowR OW5.out hb16) HNP.out) (MRow.of_own hown7.out HNP.out) HNP.out (by have := HPL.out; omega))
      have HQ16 := hide (HQ15.out.below hb16)
      have HBW16 := hide (HBW15.out.trans (hb16.mono HBW15.out.size))
      clear hb16 hown7 O2
      go_wp2_with fail
      refine SC.out.mono ?_
      rintro e w17 ⟨rfl, hb17⟩
      have HQ17 := hide (HQ16.out.below hb17)
      have HBW17 := hide (HBW16.out.trans (hb17.mono HBW16.out.size))
      clear hb17 SC
      go_wp2_with fail
      go_roundw
      case rel => exact ⟨i + 1, l', L', HLT.out, by go_num, hide HMD.out.len, HQ17, HBW17⟩
      case measure => have := HLT.out; simp [RowKit.intOf] <;> omega
end Go.Proofs.Ytomladbdebfikaa.QueueApartW
