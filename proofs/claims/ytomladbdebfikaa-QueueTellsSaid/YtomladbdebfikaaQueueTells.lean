/- The walk of the statement QueueTells: of any acts; without conditions. -/
import Derived.Test.YtomladbdebfikaaRows
import Derived.Test.YtomladbdebfikaaQuW
import Derived.Test.YtomladbdebfikaaRelG
namespace Go.Proofs.Ytomladbdebfikaa.QueueTellsW
open Go Go.Joins Go.ChangeShapes Go.WideShapes Go.RowKit Go.Deep Go.Lib Go.Proofs.Ytomladbdebfikaa Go.Proofs.Ytomladbdebfikaa.Qu
set_option linter.unusedVariables false
set_option linter.unusedSimpArgs false
set_option maxRecDepth 100000 in
set_option maxHeartbeats 32000000 in
theorem walk {H : Type} {enc : TypeId × Value → H} {base : Nat} (W : World) (v0 : Value) (d0 : DataW H) (p0 : List MemPlace) (o0 : Value.okWide Try.prog W .any base 22 v0) (r0 : DataW.Trod enc Try.prog W 0 (fun _ => true) true 22 v0 d0 p0) (a1 : ByteArray) (w1 : a1.size ≤ maxLen) (a2 : Int) (w2 : (Lit.int .i64 a2).wf = true) (a3 : Int) (w3 : (Lit.int .i64 a3).wf = true) (a4 : Int) (w4 : (Lit.int .i64 a4).wf = true) (a5 : Int) (w5 : (Lit.int .i64 a5).wf = true) :
    Calls Try.prog 4 #[v0, .string a1, .int .i64 a2, .int .i64 a3, .int .i64 a4, .int .i64 a5] W fun e w' => e = .returned (.bool true) ∧ Below W.heap.size W w' := by
  obtain ⟨A, n, cap, F, rfl, hn, hF⟩ := acts_of o0 r0
  have GR := hide (fun (w : World) (h : Acts w A n F) => Great_c cap h)
  have HF := hide hF
  have HM := hide w1
  clear o0 r0 hF w1 w2 w3 w4 w5 hn
  have G1 := hide (GR.out W HF.out)
  have B0 := hide (Below.refl W.heap.size W)
  by_cases hk : 100 < a1.size
  · have kI : (100 : Int) < (a1.size : Int) := by omega
    clear hk
    cases hg : grt n F with
    | true =>
      rw [hg] at G1
      go_enter Try.func4, Try.ntmps4
      go_wp2_with fail
      refine G1.out.mono ?_
      rintro e w2 ⟨rfl, hw2⟩
      subst hw2
      go_wp2_with fail
      go_ret
      exact ⟨rfl, B0.out⟩
    | false =>
      rw [hg] at G1
      go_enter Try.func4, Try.ntmps4
      go_wp2_with fail
      refine G1.out.mono ?_
      rintro e w2 ⟨rfl, hw2⟩
      subst hw2
      go_wp2_with fail
      go_ret
      exact ⟨rfl, B0.out⟩
  have kI : ¬ (100 : Int) < (a1.size : Int) := by omega
  clear hk
  cases hg : grt n F with
  | true =>
    rw [hg] at G1
    go_enter Try.func4, Try.ntmps4
    go_wp2_with fail
    refine G1.out.mono ?_
    rintro e w2 ⟨rfl, hw2⟩
    subst hw2
    go_wp2_with fail
    refine G1.out.mono ?_
    rintro e w2 ⟨rfl, hw2⟩
    subst hw2
    go_wp2_with fail
    go_ret
    exact ⟨rfl, B0.out⟩
  | false =>
  rw [hg] at G1
  have hn2 : n ≤ 200 := by
    unfold grt at hg
    simp at hg
    omega
  have HN2 := hide hn2
  clear hg hn2
  go_enter Try.func4, Try.ntmps4
  go_wp2_with fail
  refine G1.out.mono ?_
  rintro e w2 ⟨rfl, hw2⟩
  subst hw2
  have NC := hide (New_c W)
  go_wp2_with fail
  refine NC.out.mono ?_
  rintro e w2 ⟨q0, L0, rfl, _, _, hb2⟩
  have HB2 := hide hb2
  have DC := hide (done_c cap (HF.out.below hb2) HN2.out)
  clear hb2 NC G1
  go_wp2_with fail
  refine DC.out.mono ?_
  rintro e w3 ⟨q, L, p, A', l, rfl, hbo, hl, hb3⟩
  have HBw3 := hide hbo
  have HWw3 := hide (HB2.out.trans (hb3.mono HB2.out.size))
  have HL := hide hl
  -- what is told
  obtain ⟨y, hy⟩ : ∃ z, (findL l ⟨a2, a4⟩).getD m0 = z := ⟨_, rfl⟩
  obtain ⟨fb, hfb⟩ : ∃ z, (findL l ⟨a2, a4⟩).isSome = z := ⟨_, rfl⟩
  obtain ⟨z, hz⟩ : ∃ z, (firstL l ⟨a1, a2, a3⟩ a5).getD m0 = z := ⟨_, rfl⟩
  obtain ⟨gb, hgb⟩ : ∃ z, (firstL l ⟨a1, a2, a3⟩ a5).isSome = z := ⟨_, rfl⟩
  obtain ⟨ah, hah⟩ : ∃ z, aheadL l ⟨a2, a4⟩ = z := ⟨_, rfl⟩
  obtain ⟨na, hna⟩ : ∃ z, ah.length = z := ⟨_, rfl⟩
  obtain ⟨sn, hsn⟩ : ∃ z, sendersL l ⟨a1, a3⟩ = z := ⟨_, rfl⟩
  obtain ⟨ns, hns⟩ : ∃ z, sn.length = z := ⟨_, rfl⟩
  have FC : Hid (∀ wx, Both wx w2.heap.size q L p A' l l → Calls Try.prog 20 #[.pointer (some ⟨q, 0, none⟩), .int .i64 a2, .int .i64 a4] wx fun e w' => e = .returned (.tuple #[.agg #[.string y.key, .int .i64 y.fr, .int .i64 y.to, .int .i64 y.ca, .int .i64 y.tg, .int .i64 y.va, .int .i64 y.sz, .bool y.tk], .bool fb]) ∧ Below wx.heap.size wx w') := hide (fun wx hb => by
    have := Find_c hb.qs ⟨a2, a4⟩ (by omega)
    unfold tellV at this
    rw [hy, hfb] at this
    exact this)
  have FR : Hid (∀ wx, Both wx w2.heap.size q L p A' l l → Calls Try.prog 21 #[.pointer (some ⟨p, 0, none⟩), .int .i64 a2, .int .i64 a4] wx fun e w' => e = .returned (.tuple #[.agg #[.string y.key, .int .i64 y.fr, .int .i64 y.to, .int .i64 y.ca, .int .i64 y.tg, .int .i64 y.va, .int .i64 y.sz, .bool y.tk], .bool fb]) ∧ Below wx.heap.size wx w') := hide (fun wx hb => by
    have := Find_b hb.ra.st ⟨a2, a4⟩ (by omega)
    unfold tellV at this
    rw [hy, hfb] at this
    exact this)
  have SC : Hid (∀ wx, Both wx w2.heap.size q L p A' l l → Calls Try.prog 22 #[.pointer (some ⟨q, 0, none⟩), .string a1, .int .i64 a2, .int .i64 a3, .int .i64 a5] wx fun e w' => e = .returned (.tuple #[.agg #[.string z.key, .int .i64 z.fr, .int .i64 z.to, .int .i64 z.ca, .int .i64 z.tg, .int .i64 z.va, .int .i64 z.sz, .bool z.tk], .bool gb]) ∧ Below wx.heap.size wx w') := hide (fun wx hb => by
    have := First_c hb.qs ⟨a1, a2, a3⟩ a5 (by omega)
    unfold tellV at this
    rw [hz, hgb] at this
    exact this)
  have SR : Hid (∀ wx, Both wx w2.heap.size q L p A' l l → Calls Try.prog 23 #[.pointer (some ⟨p, 0, none⟩), .string a1, .int .i64 a2, .int .i64 a3, .int .i64 a5] wx fun e w' => e = .returned (.tuple #[.agg #[.string z.key, .int .i64 z.fr, .int .i64 z.to, .int .i64 z.ca, .int .i64 z.tg, .int .i64 z.va, .int .i64 z.sz, .bool z.tk], .bool gb]) ∧ Below wx.heap.size wx w') := hide (fun wx hb => by
    have := First_b hb.ra.st ⟨a1, a2, a3⟩ a5 (by omega)
    unfold tellV at this
    rw [hz, hgb] at this
    exact this)
  have HAC : Hid (∀ wx, Both wx w2.heap.size q L p A' l l → Calls Try.prog 24 #[.pointer (some ⟨q, 0, none⟩), .agg #[.string a1, .int .i64 a2, .int .i64 a3, .int .i64 a4, .int .i64 0, .int .i64 0, .int .i64 0, .bool false]] wx fun e w' => ∃ A1 c1, e = .returned (.slice A1 na c1) ∧ MRow w' A1 ah ∧ Below wx.heap.size wx w') := hide (fun wx hb => by
    refine (Ahead_c hb.qs ⟨a1, a2, a3, a4, 0, 0, 0, false⟩ (by omega)).mono ?_
    rintro e w' ⟨A1, c1, he, hown, hbb⟩
    have hah' : aheadL l (Msg.who ⟨a1, a2, a3, a4, 0, 0, 0, false⟩) = ah := hah
    rw [hah', hna] at he
    rw [hah'] at hown
    exact ⟨A1, c1, he, MRow.of_own hown rfl, hbb⟩)
  have HAR : Hid (∀ wx, Both wx w2.heap.size q L p A' l l → Calls Try.prog 25 #[.pointer (some ⟨p, 0, none⟩), .agg #[.string a1, .int .i64 a2, .int .i64 a3, .int .i64 a4, .int .i64 0, .int .i64 0, .int .i64 0, .bool false]] wx fun e w' => ∃ A1 c1, e = .returned (.slice A1 na c1) ∧ MRow w' A1 ah ∧ Below wx.heap.size wx w') := hide (fun wx hb => by
    refine (Ahead_b hb.ra.st ⟨a1, a2, a3, a4, 0, 0, 0, false⟩ (by omega)).mono ?_
    rintro e w' ⟨A1, c1, he, hown, hbb⟩
    have hah' : aheadL l (Msg.who ⟨a1, a2, a3, a4, 0, 0, 0, false⟩) = ah := hah
    rw [hah', hna] at he
    rw [hah'] at hown
    exact ⟨A1, c1, he, MRow.of_own hown rfl, hbb⟩)
  have HSC : Hid (∀ wx, Both wx w2.heap.size q L p A' l l → Calls Try.prog 27 #[.pointer (some ⟨q, 0, none⟩), .string a1, .int .i64 a3] wx fun e w' => ∃ A1 c1, e = .returned (.slice A1 ns c1) ∧ NRow w' A1 sn ∧ Below wx.heap.size wx w') := hide (fun wx hb => by
    refine (Senders_c hb.qs ⟨a1, a3⟩ (by omega)).mono ?_
    rintro e w' ⟨A1, c1, he, hown, hbb⟩
    rw [hsn, hns] at he
    rw [hsn] at hown
    exact ⟨A1, c1, he, NRow.of_own hown rfl, hbb⟩)
  have HSR : Hid (∀ wx, Both wx w2.heap.size q L p A' l l → Calls Try.prog 28 #[.pointer (some ⟨p, 0, none⟩), .string a1, .int .i64 a3] wx fun e w' => ∃ A1 c1, e = .returned (.slice A1 ns c1) ∧ NRow w' A1 sn ∧ Below wx.heap.size wx w') := hide (fun wx hb => by
    refine (Senders_b hb.ra.st ⟨a1, a3⟩ (by omega)).mono ?_
    rintro e w' ⟨A1, c1, he, hown, hbb⟩
    rw [hsn, hns] at he
    rw [hsn] at hown
    exact ⟨A1, c1, he, NRow.of_own hown rfl, hbb⟩)
  have HAH := hide (show ah.length = na ∧ na ≤ 200 from ⟨hna, by
    have : (aheadL l ⟨a2, a4⟩).length ≤ l.length := by
      unfold aheadL
      split
      · simp
      · exact Nat.le_trans (List.length_filter_le _ _) (by rw [List.length_take]; omega)
    rw [hah] at this
    omega⟩)
  have HSN := hide (show sn.length = ns ∧ ns ≤ 200 from ⟨hns, by
    have : (sendersL l ⟨a1, a3⟩).length ≤ 64 := Nat.le_trans (List.length_filter_le _ _) (by simp [upto])
    rw [hsn] at this
    omega⟩)
  clear hbo hl hb3 hy hfb hz hgb hah hna hsn hns DC
  have Q1 := hide (FC.out w3 HBw3.out)
  go_wp2_with fail
  refine Q1.out.mono ?_
  rintro e w4 ⟨rfl, hb⟩
  have ba := (Below.refl w4.heap.size w4).alloc (Nat.le_refl _) (.cells #[.string y.key, .int .i64 y.fr, .int .i64 y.to, .int .i64 y.ca, .int .i64 y.tg, .int .i64 y.va, .int .i64 y.sz, .bool y.tk] 31)
  have kx := Blk.new w4 31 #[.string y.key, .int .i64 y.fr, .int .i64 y.to, .int .i64 y.ca, .int .i64 y.tg, .int .i64 y.va, .int .i64 y.sz, .bool y.tk]
  obtain ⟨w5, hw1⟩ : ∃ zz, w4.alloc (.cells #[.string y.key, .int .i64 y.fr, .int .i64 y.to, .int .i64 y.ca, .int .i64 y.tg, .int .i64 y.va, .int .i64 y.sz, .bool y.tk] 31) = zz := ⟨_, rfl⟩
  obtain ⟨X15, hX⟩ : ∃ zz, w4.heap.size = zz := ⟨_, rfl⟩
  rw [hw1] at ba kx
  rw [hX] at kx
  have hbx := hb.trans (ba.mono hb.size)
  have HBw5 := hide (HBw3.out.below hbx)
  have HWw5 := hide (HWw3.out.trans (hbx.mono HWw3.out.size))
  have KX15 := hide kx
  have HE := hide (And.intro hw1 hX)
  clear hb ba kx hw1 hX hbx Q1
  go_upto_region 5 with (fail)
  rw [HE.out.1, HE.out.2]
  clear HE
  have Q1 := hide (FR.out w5 HBw5.out)
  go_wp2_with fail
  refine Q1.out.mono ?_
  rintro e w6 ⟨rfl, hb⟩
  have ba := (Below.refl w6.heap.size w6).alloc (Nat.le_refl _) (.cells #[.string y.key, .int .i64 y.fr, .int .i64 y.to, .int .i64 y.ca, .int .i64 y.tg, .int .i64 y.va, .int .i64 y.sz, .bool y.tk] 31)
  have kx := Blk.new w6 31 #[.string y.key, .int .i64 y.fr, .int .i64 y.to, .int .i64 y.ca, .int .i64 y.tg, .int .i64 y.va, .int .i64 y.sz, .bool y.tk]
  obtain ⟨w7, hw1⟩ : ∃ zz, w6.alloc (.cells #[.string y.key, .int .i64 y.fr, .int .i64 y.to, .int .i64 y.ca, .int .i64 y.tg, .int .i64 y.va, .int .i64 y.sz, .bool y.tk] 31) = zz := ⟨_, rfl⟩
  obtain ⟨X17, hX⟩ : ∃ zz, w6.heap.size = zz := ⟨_, rfl⟩
  rw [hw1] at ba kx
  rw [hX] at kx
  have hbx := hb.trans (ba.mono hb.size)
  have HBw7 := hide (HBw5.out.below hbx)
  have HWw7 := hide (HWw5.out.trans (hbx.mono HWw5.out.size))
  have KX17 := hide kx
  have KX15 := hide (KX15.out.below hbx KX15.out.lt)
  have HE := hide (And.intro hw1 hX)
  clear hb ba kx hw1 hX hbx Q1
  go_upto_region 6 with (fail)
  rw [HE.out.1, HE.out.2]
  clear HE
  have Q1 := hide (SC.out w7 HBw7.out)
  go_wp2_with fail
  refine Q1.out.mono ?_
  rintro e w8 ⟨rfl, hb⟩
  have ba := (Below.refl w8.heap.size w8).alloc (Nat.le_refl _) (.cells #[.string z.key, .int .i64 z.fr, .int .i64 z.to, .int .i64 z.ca, .int .i64 z.tg, .int .i64 z.va, .int .i64 z.sz, .bool z.tk] 31)
  have kx := Blk.new w8 31 #[.string z.key, .int .i64 z.fr, .int .i64 z.to, .int .i64 z.ca, .int .i64 z.tg, .int .i64 z.va, .int .i64 z.sz, .bool z.tk]
  obtain ⟨w9, hw1⟩ : ∃ zz, w8.alloc (.cells #[.string z.key, .int .i64 z.fr, .int .i64 z.to, .int .i64 z.ca, .int .i64 z.tg, .int .i64 z.va, .int .i64 z.sz, .bool z.tk] 31) = zz := ⟨_, rfl⟩
  obtain ⟨X19, hX⟩ : ∃ zz, w8.heap.size = zz := ⟨_, rfl⟩
  rw [hw1] at ba kx
  rw [hX] at kx
  have hbx := hb.trans (ba.mono hb.size)
  have HBw9 := hide (HBw7.out.below hbx)
  have HWw9 := hide (HWw7.out.trans (hbx.mono HWw7.out.size))
  have KX19 := hide kx
  have KX15 := hide (KX15.out.below hbx KX15.out.lt)
  have KX17 := hide (KX17.out.below hbx KX17.out.lt)
  have HE := hide (And.intro hw1 hX)
  clear hb ba kx hw1 hX hbx Q1
  go_upto_region 7 with (fail)
  rw [HE.out.1, HE.out.2]
  clear HE
  have Q1 := hide (SR.out w9 HBw9.out)
  go_wp2_with fail
  refine Q1.out.mono ?_
  rintro e w10 ⟨rfl, hb⟩
  have ba := (Below.refl w10.heap.size w10).alloc (Nat.le_refl _) (.cells #[.string z.key, .int .i64 z.fr, .int .i64 z.to, .int .i64 z.ca, .int .i64 z.tg, .int .i64 z.va, .int .i64 z.sz, .bool z.tk] 31)
  have kx := Blk.new w10 31 #[.string z.key, .int .i64 z.fr, .int .i64 z.to, .int .i64 z.ca, .int .i64 z.tg, .int .i64 z.va, .int .i64 z.sz, .bool z.tk]
  obtain ⟨w11, hw1⟩ : ∃ zz, w10.alloc (.cells #[.string z.key, .int .i64 z.fr, .int .i64 z.to, .int .i64 z.ca, .int .i64 z.tg, .int .i64 z.va, .int .i64 z.sz, .bool z.tk] 31) = zz := ⟨_, rfl⟩
  obtain ⟨X21, hX⟩ : ∃ zz, w10.heap.size = zz := ⟨_, rfl⟩
  rw [hw1] at ba kx
  rw [hX] at kx
  have hbx := hb.trans (ba.mono hb.size)
  have HBw11 := hide (HBw9.out.below hbx)
  have HWw11 := hide (HWw9.out.trans (hbx.mono HWw9.out.size))
  have KX21 := hide kx
  have KX15 := hide (KX15.out.below hbx KX15.out.lt)
  have KX17 := hide (KX17.out.below hbx KX17.out.lt)
  have KX19 := hide (KX19.out.below hbx KX19.out.lt)
  have HE := hide (And.intro hw1 hX)
  clear hb ba kx hw1 hX hbx Q1
  go_upto_region 8 with (fail)
  rw [HE.out.1, HE.out.2]
  clear HE
  have ba := (Below.refl w11.heap.size w11).alloc (Nat.le_refl _) (.cells #[.string a1, .int .i64 a2, .int .i64 a3, .int .i64 a4, .int .i64 0, .int .i64 0, .int .i64 0, .bool false] 31)
  have kx := Blk.new w11 31 #[.string a1, .int .i64 a2, .int .i64 a3, .int .i64 a4, .int .i64 0, .int .i64 0, .int .i64 0, .bool false]
  obtain ⟨wk, hw1⟩ : ∃ zz, w11.alloc (.cells #[.string a1, .int .i64 a2, .int .i64 a3, .int .i64 a4, .int .i64 0, .int .i64 0, .int .i64 0, .bool false] 31) = zz := ⟨_, rfl⟩
  obtain ⟨X23, hX⟩ : ∃ zz, w11.heap.size = zz := ⟨_, rfl⟩
  rw [hw1] at ba kx
  rw [hX] at kx
  have HBB := hide (HBw11.out.below ba)
  have HWW := hide (HWw11.out.trans (ba.mono HWw11.out.size))
  have KX23 := hide kx
  have KX15 := hide (KX15.out.below ba KX15.out.lt)
  have KX17 := hide (KX17.out.below ba KX17.out.lt)
  have KX19 := hide (KX19.out.below ba KX19.out.lt)
  have KX21 := hide (KX21.out.below ba KX21.out.lt)
  have HE := hide (And.intro hw1 hX)
  clear ba kx hw1 hX
  go_upto_region 9 with (fail)
  rw [HE.out.1, HE.out.2]
  clear HE
  let R : Nat → Value → World → Prop := fun sl u w1 => match sl with
    | 12 => u = .bool true
    | 84 => u = .agg #[.string y.key, .int .i64 y.fr, .int .i64 y.to, .int .i64 y.ca, .int .i64 y.tg, .int .i64 y.va, .int .i64 y.sz, .bool y.tk]
    | 85 => u = .agg #[.string y.key, .int .i64 y.fr, .int .i64 y.to, .int .i64 y.ca, .int .i64 y.tg, .int .i64 y.va, .int .i64 y.sz, .bool y.tk]
    | 86 => u = .bool true
    | 87 => u = .bool true
    | 88 => u = .bool fb
    | 89 => u = .bool fb
    | 90 => u = .bool true
    | 91 => u = .bool true
    | 92 => u = .bool true
    | 93 => u = .agg #[.string z.key, .int .i64 z.fr, .int .i64 z.to, .int .i64 z.ca, .int .i64 z.tg, .int .i64 z.va, .int .i64 z.sz, .bool z.tk]
    | 94 => u = .agg #[.string z.key, .int .i64 z.fr, .int .i64 z.to, .int .i64 z.ca, .int .i64 z.tg, .int .i64 z.va, .int .i64 z.sz, .bool z.tk]
    | 95 => u = .bool true
    | 96 => u = .bool true
    | 97 => u = .bool true
    | 98 => u = .bool gb
    | 99 => u = .bool gb
    | 100 => u = .bool true
    | 101 => u = .bool true
    | 102 => u = .bool true
    | 103 => u = .pointer (some ⟨q, 0, none⟩)
    | 104 => u = .agg #[.string a1, .int .i64 a2, .int .i64 a3, .int .i64 a4, .int .i64 0, .int .i64 0, .int .i64 0, .bool false]
    | 105 => ∃ A1 c1, u = .slice A1 na c1 ∧ MRow w1 A1 ah
    | 106 => u = .pointer (some ⟨p, 0, none⟩)
    | 107 => u = .agg #[.string a1, .int .i64 a2, .int .i64 a3, .int .i64 a4, .int .i64 0, .int .i64 0, .int .i64 0, .bool false]
    | 108 => ∃ A1 c1, u = .slice A1 na c1 ∧ MRow w1 A1 ah
    | 109 => u = .bool true
    | 110 => u = .bool true
    | 111 => u = .bool true
    | 112 => u = .pointer (some ⟨q, 0, none⟩)
    | 113 => u = .string a1
    | 114 => u = .int .i64 a3
    | 115 => ∃ A1 c1, u = .slice A1 ns c1 ∧ NRow w1 A1 sn
    | 116 => u = .pointer (some ⟨p, 0, none⟩)
    | 117 => u = .string a1
    | 118 => u = .int .i64 a3
    | 119 => ∃ A1 c1, u = .slice A1 ns c1 ∧ NRow w1 A1 sn
    | 120 => u = .bool true
    | 121 => u = .bool true
    | _ => True
  refine wp_region_relGW [(87, true), (92, true), (97, true), (102, true), (111, true)] R (fun a b => Below a.heap.size a b) (fun _ w => Below wk.heap.size wk w) (by kernel_rfl) (by kernel_rfl) (by kernel_rfl) (by kernel_rfl) ?mono (fun w => Below.refl _ _) ((Below.refl _ _).drew) ?gs ?step ?fin
  case mono =>
    intro sl u wx wy h hk
    match sl with
    | 105 =>
      obtain ⟨A1, c1, h1, h2⟩ := h
      exact ⟨A1, c1, h1, h2.below hk⟩
    | 108 =>
      obtain ⟨A1, c1, h1, h2⟩ := h
      exact ⟨A1, c1, h1, h2.below hk⟩
    | 115 =>
      obtain ⟨A1, c1, h1, h2⟩ := h
      exact ⟨A1, c1, h1, h2.below hk⟩
    | 119 =>
      obtain ⟨A1, c1, h1, h2⟩ := h
      exact ⟨A1, c1, h1, h2.below hk⟩
    | 0 | 1 | 2 | 3 | 4 | 5 | 6 | 7 | 8 | 9 | 10 | 11 | 12 | 13 | 14 | 15 | 16 | 17 | 18 | 19 | 20 | 21 | 22 | 23 | 24 | 25 | 26 | 27 | 28 | 29 | 30 | 31 | 32 | 33 | 34 | 35 | 36 | 37 | 38 | 39 | 40 | 41 | 42 | 43 | 44 | 45 | 46 | 47 | 48 | 49 | 50 | 51 | 52 | 53 | 54 | 55 | 56 | 57 | 58 | 59 | 60 | 61 | 62 | 63 | 64 | 65 | 66 | 67 | 68 | 69 | 70 | 71 | 72 | 73 | 74 | 75 | 76 | 77 | 78 | 79 | 80 | 81 | 82 | 83 | 84 | 85 | 86 | 87 | 88 | 89 | 90 | 91 | 92 | 93 | 94 | 95 | 96 | 97 | 98 | 99 | 100 | 101 | 102 | 103 | 104 | 106 | 107 | 109 | 110 | 111 | 112 | 113 | 114 | 116 | 117 | 118 | 120 | 121 | _ + 122 => exact h
  case gs =>
    intro p hp u w1 h
    simp only [List.mem_cons, List.not_mem_nil, or_false] at hp
    rcases hp with rfl | rfl | rfl | rfl | rfl <;> exact h
  case step =>
    intro j o ho
    match j, ho with
    | 0, ho =>
      cases ho
      intro V aa wx hV hdep hval hj hsm hr
      have e15 : aa.tmps.getD 15 undef = .pointer (some ⟨X15, 0, none⟩) := hsm 15 (by decide)
      have hk := KX15.out.below hj KX15.out.lt
      have x0 : wx.cell? ⟨X15, 0, none⟩ = some (.string y.key) := hk.cell 0
      have x1 : wx.cell? ⟨X15, 1, none⟩ = some (.int .i64 y.fr) := hk.cell 1
      have x2 : wx.cell? ⟨X15, 2, none⟩ = some (.int .i64 y.to) := hk.cell 2
      have x3 : wx.cell? ⟨X15, 3, none⟩ = some (.int .i64 y.ca) := hk.cell 3
      have x4 : wx.cell? ⟨X15, 4, none⟩ = some (.int .i64 y.tg) := hk.cell 4
      have x5 : wx.cell? ⟨X15, 5, none⟩ = some (.int .i64 y.va) := hk.cell 5
      have x6 : wx.cell? ⟨X15, 6, none⟩ = some (.int .i64 y.sz) := hk.cell 6
      have x7 : wx.cell? ⟨X15, 7, none⟩ = some (.bool y.tk) := hk.cell 7
      rw [Array.getD_eq_getD_getElem?] at e15
      unfold Oper.wp
      simp only [execOp, Act.eval, Array.getD_eq_getD_getElem?, e15]
      go_simp
      first | exact ⟨_, rfl, rfl, Below.refl _ _⟩ | exact ⟨_, rfl, rfl, Below.refl _ _, hj⟩ | exact ⟨_, rfl, Below.refl _ _, hj⟩ | exact ⟨_, rfl, hj⟩
    | 1, ho =>
      cases ho
      intro V aa wx hV hdep hval hj hsm hr
      have e17 : aa.tmps.getD 17 undef = .pointer (some ⟨X17, 0, none⟩) := hsm 17 (by decide)
      have hk := KX17.out.below hj KX17.out.lt
      have x0 : wx.cell? ⟨X17, 0, none⟩ = some (.string y.key) := hk.cell 0
      have x1 : wx.cell? ⟨X17, 1, none⟩ = some (.int .i64 y.fr) := hk.cell 1
      have x2 : wx.cell? ⟨X17, 2, none⟩ = some (.int .i64 y.to) := hk.cell 2
      have x3 : wx.cell? ⟨X17, 3, none⟩ = some (.int .i64 y.ca) := hk.cell 3
      have x4 : wx.cell? ⟨X17, 4, none⟩ = some (.int .i64 y.tg) := hk.cell 4
      have x5 : wx.cell? ⟨X17, 5, none⟩ = some (.int .i64 y.va) := hk.cell 5
      have x6 : wx.cell? ⟨X17, 6, none⟩ = some (.int .i64 y.sz) := hk.cell 6
      have x7 : wx.cell? ⟨X17, 7, none⟩ = some (.bool y.tk) := hk.cell 7
      rw [Array.getD_eq_getD_getElem?] at e17
      unfold Oper.wp
      simp only [execOp, Act.eval, Array.getD_eq_getD_getElem?, e17]
      go_simp
      first | exact ⟨_, rfl, rfl, Below.refl _ _⟩ | exact ⟨_, rfl, rfl, Below.refl _ _, hj⟩ | exact ⟨_, rfl, Below.refl _ _, hj⟩ | exact ⟨_, rfl, hj⟩
    | 2, ho =>
      cases ho
      intro V aa wx hV hdep hval hj hsm hr
      have e84 : aa.tmps.getD 84 undef = .agg #[.string y.key, .int .i64 y.fr, .int .i64 y.to, .int .i64 y.ca, .int .i64 y.tg, .int .i64 y.va, .int .i64 y.sz, .bool y.tk] := hr 84 (by decide) (by apply Array.mem_toList_iff.1; repeat (first | exact List.Mem.head _ | apply List.Mem.tail))
      have e85 : aa.tmps.getD 85 undef = .agg #[.string y.key, .int .i64 y.fr, .int .i64 y.to, .int .i64 y.ca, .int .i64 y.tg, .int .i64 y.va, .int .i64 y.sz, .bool y.tk] := hr 85 (by decide) (by apply Array.mem_toList_iff.1; repeat (first | exact List.Mem.head _ | apply List.Mem.tail))
      have s1 := str_eq y.key
      rw [Array.getD_eq_getD_getElem?] at e84
      rw [Array.getD_eq_getD_getElem?] at e85
      unfold Oper.wp
      simp only [execOp, Act.eval, Array.getD_eq_getD_getElem?, e84, e85]
      go_simp
      first | exact ⟨_, rfl, rfl, Below.refl _ _⟩ | exact ⟨_, rfl, rfl, Below.refl _ _, hj⟩ | exact ⟨_, rfl, Below.refl _ _, hj⟩ | exact ⟨_, rfl, hj⟩
    | 3, ho =>
      cases ho
      intro V aa wx hV hdep hval hj hsm hr
      have e86 : aa.tmps.getD 86 undef = .bool true := hr 86 (by decide) (by apply Array.mem_toList_iff.1; repeat (first | exact List.Mem.head _ | apply List.Mem.tail))
      rw [Array.getD_eq_getD_getElem?] at e86
      unfold Oper.wp
      simp only [execOp, Act.eval, Array.getD_eq_getD_getElem?, e86]
      go_simp
      first | exact ⟨_, rfl, rfl, Below.refl _ _⟩ | exact ⟨_, rfl, rfl, Below.refl _ _, hj⟩ | exact ⟨_, rfl, Below.refl _ _, hj⟩ | exact ⟨_, rfl, hj⟩
    | 4, ho =>
      cases ho
      intro V aa wx hV hdep hval hj hsm hr
      have e16 : aa.tmps.getD 16 undef = .bool fb := hsm 16 (by decide)
      rw [Array.getD_eq_getD_getElem?] at e16
      unfold Oper.wp
      simp only [execOp, Act.eval, Array.getD_eq_getD_getElem?, e16]
      go_simp
      first | exact ⟨_, rfl, rfl, Below.refl _ _⟩ | exact ⟨_, rfl, rfl, Below.refl _ _, hj⟩ | exact ⟨_, rfl, Below.refl _ _, hj⟩ | exact ⟨_, rfl, hj⟩
    | 5, ho =>
      cases ho
      intro V aa wx hV hdep hval hj hsm hr
      have e18 : aa.tmps.getD 18 undef = .bool fb := hsm 18 (by decide)
      rw [Array.getD_eq_getD_getElem?] at e18
      unfold Oper.wp
      simp only [execOp, Act.eval, Array.getD_eq_getD_getElem?, e18]
      go_simp
      first | exact ⟨_, rfl, rfl, Below.refl _ _⟩ | exact ⟨_, rfl, rfl, Below.refl _ _, hj⟩ | exact ⟨_, rfl, Below.refl _ _, hj⟩ | exact ⟨_, rfl, hj⟩
    | 6, ho =>
      cases ho
      intro V aa wx hV hdep hval hj hsm hr
      have e88 : aa.tmps.getD 88 undef = .bool fb := hr 88 (by decide) (by apply Array.mem_toList_iff.1; repeat (first | exact List.Mem.head _ | apply List.Mem.tail))
      have e89 : aa.tmps.getD 89 undef = .bool fb := hr 89 (by decide) (by apply Array.mem_toList_iff.1; repeat (first | exact List.Mem.head _ | apply List.Mem.tail))
      have s1 : (fb == fb) = true := by simp
      rw [Array.getD_eq_getD_getElem?] at e88
      rw [Array.getD_eq_getD_getElem?] at e89
      unfold Oper.wp
      simp only [execOp, Act.eval, Array.getD_eq_getD_getElem?, e88, e89]
      go_simp
      first | exact ⟨_, rfl, rfl, Below.refl _ _⟩ | exact ⟨_, rfl, rfl, Below.refl _ _, hj⟩ | exact ⟨_, rfl, Below.refl _ _, hj⟩ | exact ⟨_, rfl, hj⟩
    | 7, ho =>
      cases ho
      intro V aa wx hV hdep hval hj hsm hr
      have e87 : aa.tmps.getD 87 undef = .bool true := hr 87 (by decide) (by apply Array.mem_toList_iff.1; repeat (first | exact List.Mem.head _ | apply List.Mem.tail))
      have e90 : aa.tmps.getD 90 undef = .bool true := hr 90 (by decide) (by apply Array.mem_toList_iff.1; repeat (first | exact List.Mem.head _ | apply List.Mem.tail))
      rw [Array.getD_eq_getD_getElem?] at e87
      rw [Array.getD_eq_getD_getElem?] at e90
      unfold Oper.wp
      simp only [execOp, Act.eval, Array.getD_eq_getD_getElem?, e87, e90]
      go_simp
      first | exact ⟨_, rfl, rfl, Below.refl _ _⟩ | exact ⟨_, rfl, rfl, Below.refl _ _, hj⟩ | exact ⟨_, rfl, Below.refl _ _, hj⟩ | exact ⟨_, rfl, hj⟩
    | 8, ho =>
      cases ho
      intro V aa wx hV hdep hval hj hsm hr
      have e91 : aa.tmps.getD 91 undef = .bool true := hr 91 (by decide) (by apply Array.mem_toList_iff.1; repeat (first | exact List.Mem.head _ | apply List.Mem.tail))
      rw [Array.getD_eq_getD_getElem?] at e91
      unfold Oper.wp
      simp only [execOp, Act.eval, Array.getD_eq_getD_getElem?, e91]
      go_simp
      first | exact ⟨_, rfl, rfl, Below.refl _ _⟩ | exact ⟨_, rfl, rfl, Below.refl _ _, hj⟩ | exact ⟨_, rfl, Below.refl _ _, hj⟩ | exact ⟨_, rfl, hj⟩
    | 9, ho =>
      cases ho
      intro V aa wx hV hdep hval hj hsm hr
      have e19 : aa.tmps.getD 19 undef = .pointer (some ⟨X19, 0, none⟩) := hsm 19 (by decide)
      have hk := KX19.out.below hj KX19.out.lt
      have x0 : wx.cell? ⟨X19, 0, none⟩ = some (.string z.key) := hk.cell 0
      have x1 : wx.cell? ⟨X19, 1, none⟩ = some (.int .i64 z.fr) := hk.cell 1
      have x2 : wx.cell? ⟨X19, 2, none⟩ = some (.int .i64 z.to) := hk.cell 2
      have x3 : wx.cell? ⟨X19, 3, none⟩ = some (.int .i64 z.ca) := hk.cell 3
      have x4 : wx.cell? ⟨X19, 4, none⟩ = some (.int .i64 z.tg) := hk.cell 4
      have x5 : wx.cell? ⟨X19, 5, none⟩ = some (.int .i64 z.va) := hk.cell 5
      have x6 : wx.cell? ⟨X19, 6, none⟩ = some (.int .i64 z.sz) := hk.cell 6
      have x7 : wx.cell? ⟨X19, 7, none⟩ = some (.bool z.tk) := hk.cell 7
      rw [Array.getD_eq_getD_getElem?] at e19
      unfold Oper.wp
      simp only [execOp, Act.eval, Array.getD_eq_getD_getElem?, e19]
      go_simp
      first | exact ⟨_, rfl, rfl, Below.refl _ _⟩ | exact ⟨_, rfl, rfl, Below.refl _ _, hj⟩ | exact ⟨_, rfl, Below.refl _ _, hj⟩ | exact ⟨_, rfl, hj⟩
    | 10, ho =>
      cases ho
      intro V aa wx hV hdep hval hj hsm hr
      have e21 : aa.tmps.getD 21 undef = .pointer (some ⟨X21, 0, none⟩) := hsm 21 (by decide)
      have hk := KX21.out.below hj KX21.out.lt
      have x0 : wx.cell? ⟨X21, 0, none⟩ = some (.string z.key) := hk.cell 0
      have x1 : wx.cell? ⟨X21, 1, none⟩ = some (.int .i64 z.fr) := hk.cell 1
      have x2 : wx.cell? ⟨X21, 2, none⟩ = some (.int .i64 z.to) := hk.cell 2
      have x3 : wx.cell? ⟨X21, 3, none⟩ = some (.int .i64 z.ca) := hk.cell 3
      have x4 : wx.cell? ⟨X21, 4, none⟩ = some (.int .i64 z.tg) := hk.cell 4
      have x5 : wx.cell? ⟨X21, 5, none⟩ = some (.int .i64 z.va) := hk.cell 5
      have x6 : wx.cell? ⟨X21, 6, none⟩ = some (.int .i64 z.sz) := hk.cell 6
      have x7 : wx.cell? ⟨X21, 7, none⟩ = some (.bool z.tk) := hk.cell 7
      rw [Array.getD_eq_getD_getElem?] at e21
      unfold Oper.wp
      simp only [execOp, Act.eval, Array.getD_eq_getD_getElem?, e21]
      go_simp
      first | exact ⟨_, rfl, rfl, Below.refl _ _⟩ | exact ⟨_, rfl, rfl, Below.refl _ _, hj⟩ | exact ⟨_, rfl, Below.refl _ _, hj⟩ | exact ⟨_, rfl, hj⟩
    | 11, ho =>
      cases ho
      intro V aa wx hV hdep hval hj hsm hr
      have e93 : aa.tmps.getD 93 undef = .agg #[.string z.key, .int .i64 z.fr, .int .i64 z.to, .int .i64 z.ca, .int .i64 z.tg, .int .i64 z.va, .int .i64 z.sz, .bool z.tk] := hr 93 (by decide) (by apply Array.mem_toList_iff.1; repeat (first | exact List.Mem.head _ | apply List.Mem.tail))
      have e94 : aa.tmps.getD 94 undef = .agg #[.string z.key, .int .i64 z.fr, .int .i64 z.to, .int .i64 z.ca, .int .i64 z.tg, .int .i64 z.va, .int .i64 z.sz, .bool z.tk] := hr 94 (by decide) (by apply Array.mem_toList_iff.1; repeat (first | exact List.Mem.head _ | apply List.Mem.tail))
      have s1 := str_eq z.key
      rw [Array.getD_eq_getD_getElem?] at e93
      rw [Array.getD_eq_getD_getElem?] at e94
      unfold Oper.wp
      simp only [execOp, Act.eval, Array.getD_eq_getD_getElem?, e93, e94]
      go_simp
      first | exact ⟨_, rfl, rfl, Below.refl _ _⟩ | exact ⟨_, rfl, rfl, Below.refl _ _, hj⟩ | exact ⟨_, rfl, Below.refl _ _, hj⟩ | exact ⟨_, rfl, hj⟩
    | 12, ho =>
      cases ho
      intro V aa wx hV hdep hval hj hsm hr
      have e92 : aa.tmps.getD 92 undef = .bool true := hr 92 (by decide) (by apply Array.mem_toList_iff.1; repeat (first | exact List.Mem.head _ | apply List.Mem.tail))
      have e95 : aa.tmps.getD 95 undef = .bool true := hr 95 (by decide) (by apply Array.mem_toList_iff.1; repeat (first | exact List.Mem.head _ | apply List.Mem.tail))
      rw [Array.getD_eq_getD_getElem?] at e92
      rw [Array.getD_eq_getD_getElem?] at e95
      unfold Oper.wp
      simp only [execOp, Act.eval, Array.getD_eq_getD_getElem?, e92, e95]
      go_simp
      first | exact ⟨_, rfl, rfl, Below.refl _ _⟩ | exact ⟨_, rfl, rfl, Below.refl _ _, hj⟩ | exact ⟨_, rfl, Below.refl _ _, hj⟩ | exact ⟨_, rfl, hj⟩
    | 13, ho =>
      cases ho
      intro V aa wx hV hdep hval hj hsm hr
      have e96 : aa.tmps.getD 96 undef = .bool true := hr 96 (by decide) (by apply Array.mem_toList_iff.1; repeat (first | exact List.Mem.head _ | apply List.Mem.tail))
      rw [Array.getD_eq_getD_getElem?] at e96
      unfold Oper.wp
      simp only [execOp, Act.eval, Array.getD_eq_getD_getElem?, e96]
      go_simp
      first | exact ⟨_, rfl, rfl, Below.refl _ _⟩ | exact ⟨_, rfl, rfl, Below.refl _ _, hj⟩ | exact ⟨_, rfl, Below.refl _ _, hj⟩ | exact ⟨_, rfl, hj⟩
    | 14, ho =>
      cases ho
      intro V aa wx hV hdep hval hj hsm hr
      have e20 : aa.tmps.getD 20 undef = .bool gb := hsm 20 (by decide)
      rw [Array.getD_eq_getD_getElem?] at e20
      unfold Oper.wp
      simp only [execOp, Act.eval, Array.getD_eq_getD_getElem?, e20]
      go_simp
      first | exact ⟨_, rfl, rfl, Below.refl _ _⟩ | exact ⟨_, rfl, rfl, Below.refl _ _, hj⟩ | exact ⟨_, rfl, Below.refl _ _, hj⟩ | exact ⟨_, rfl, hj⟩
    | 15, ho =>
      cases ho
      intro V aa wx hV hdep hval hj hsm hr
      have e22 : aa.tmps.getD 22 undef = .bool gb := hsm 22 (by decide)
      rw [Array.getD_eq_getD_getElem?] at e22
      unfold Oper.wp
      simp only [execOp, Act.eval, Array.getD_eq_getD_getElem?, e22]
      go_simp
      first | exact ⟨_, rfl, rfl, Below.refl _ _⟩ | exact ⟨_, rfl, rfl, Below.refl _ _, hj⟩ | exact ⟨_, rfl, Below.refl _ _, hj⟩ | exact ⟨_, rfl, hj⟩
    | 16, ho =>
      cases ho
      intro V aa wx hV hdep hval hj hsm hr
      have e98 : aa.tmps.getD 98 undef = .bool gb := hr 98 (by decide) (by apply Array.mem_toList_iff.1; repeat (first | exact List.Mem.head _ | apply List.Mem.tail))
      have e99 : aa.tmps.getD 99 undef = .bool gb := hr 99 (by decide) (by apply Array.mem_toList_iff.1; repeat (first | exact List.Mem.head _ | apply List.Mem.tail))
      have s1 : (gb == gb) = true := by simp
      rw [Array.getD_eq_getD_getElem?] at e98
      rw [Array.getD_eq_getD_getElem?] at e99
      unfold Oper.wp
      simp only [execOp, Act.eval, Array.getD_eq_getD_getElem?, e98, e99]
      go_simp
      first | exact ⟨_, rfl, rfl, Below.refl _ _⟩ | exact ⟨_, rfl, rfl, Below.refl _ _, hj⟩ | exact ⟨_, rfl, Below.refl _ _, hj⟩ | exact ⟨_, rfl, hj⟩
    | 17, ho =>
      cases ho
      intro V aa wx hV hdep hval hj hsm hr
      have e97 : aa.tmps.getD 97 undef = .bool true := hr 97 (by decide) (by apply Array.mem_toList_iff.1; repeat (first | exact List.Mem.head _ | apply List.Mem.tail))
      have e100 : aa.tmps.getD 100 undef = .bool true := hr 100 (by decide) (by apply Array.mem_toList_iff.1; repeat (first | exact List.Mem.head _ | apply List.Mem.tail))
      rw [Array.getD_eq_getD_getElem?] at e97
      rw [Array.getD_eq_getD_getElem?] at e100
      unfold Oper.wp
      simp only [execOp, Act.eval, Array.getD_eq_getD_getElem?, e97, e100]
      go_simp
      first | exact ⟨_, rfl, rfl, Below.refl _ _⟩ | exact ⟨_, rfl, rfl, Below.refl _ _, hj⟩ | exact ⟨_, rfl, Below.refl _ _, hj⟩ | exact ⟨_, rfl, hj⟩
    | 18, ho =>
      cases ho
      intro V aa wx hV hdep hval hj hsm hr
      have e101 : aa.tmps.getD 101 undef = .bool true := hr 101 (by decide) (by apply Array.mem_toList_iff.1; repeat (first | exact List.Mem.head _ | apply List.Mem.tail))
      rw [Array.getD_eq_getD_getElem?] at e101
      unfold Oper.wp
      simp only [execOp, Act.eval, Array.getD_eq_getD_getElem?, e101]
      go_simp
      first | exact ⟨_, rfl, rfl, Below.refl _ _⟩ | exact ⟨_, rfl, rfl, Below.refl _ _, hj⟩ | exact ⟨_, rfl, Below.refl _ _, hj⟩ | exact ⟨_, rfl, hj⟩
    | 19, ho =>
      cases ho
      intro V aa wx hV hdep hval hj hsm hr
      have e13 : aa.tmps.getD 13 undef = .pointer (some ⟨q, 0, none⟩) := hsm 13 (by decide)
      rw [Array.getD_eq_getD_getElem?] at e13
      unfold Oper.wp
      simp only [execOp, Act.eval, Array.getD_eq_getD_getElem?, e13]
      go_simp
      first | exact ⟨_, rfl, rfl, Below.refl _ _⟩ | exact ⟨_, rfl, rfl, Below.refl _ _, hj⟩ | exact ⟨_, rfl, Below.refl _ _, hj⟩ | exact ⟨_, rfl, hj⟩
    | 20, ho =>
      cases ho
      intro V aa wx hV hdep hval hj hsm hr
      have e23 : aa.tmps.getD 23 undef = .pointer (some ⟨X23, 0, none⟩) := hsm 23 (by decide)
      have hk := KX23.out.below hj KX23.out.lt
      have x0 : wx.cell? ⟨X23, 0, none⟩ = some (.string a1) := hk.cell 0
      have x1 : wx.cell? ⟨X23, 1, none⟩ = some (.int .i64 a2) := hk.cell 1
      have x2 : wx.cell? ⟨X23, 2, none⟩ = some (.int .i64 a3) := hk.cell 2
      have x3 : wx.cell? ⟨X23, 3, none⟩ = some (.int .i64 a4) := hk.cell 3
      have x4 : wx.cell? ⟨X23, 4, none⟩ = some (.int .i64 0) := hk.cell 4
      have x5 : wx.cell? ⟨X23, 5, none⟩ = some (.int .i64 0) := hk.cell 5
      have x6 : wx.cell? ⟨X23, 6, none⟩ = some (.int .i64 0) := hk.cell 6
      have x7 : wx.cell? ⟨X23, 7, none⟩ = some (.bool false) := hk.cell 7
      rw [Array.getD_eq_getD_getElem?] at e23
      unfold Oper.wp
      simp only [execOp, Act.eval, Array.getD_eq_getD_getElem?, e23]
      go_simp
      first | exact ⟨_, rfl, rfl, Below.refl _ _⟩ | exact ⟨_, rfl, rfl, Below.refl _ _, hj⟩ | exact ⟨_, rfl, Below.refl _ _, hj⟩ | exact ⟨_, rfl, hj⟩
    | 21, ho =>
      cases ho
      intro V aa wx hV hdep hval hj hsm hr
      have e103 : aa.tmps.getD 103 undef = .pointer (some ⟨q, 0, none⟩) := hr 103 (by decide) (by apply Array.mem_toList_iff.1; repeat (first | exact List.Mem.head _ | apply List.Mem.tail))
      have e104 : aa.tmps.getD 104 undef = .agg #[.string a1, .int .i64 a2, .int .i64 a3, .int .i64 a4, .int .i64 0, .int .i64 0, .int .i64 0, .bool false] := hr 104 (by decide) (by apply Array.mem_toList_iff.1; repeat (first | exact List.Mem.head _ | apply List.Mem.tail))
      rw [Array.getD_eq_getD_getElem?] at e103
      rw [Array.getD_eq_getD_getElem?] at e104
      unfold Oper.wp
      simp only [execOp, Act.eval, Array.getD_eq_getD_getElem?, e103, e104]
      go_simp
      refine (HAC.out wx (HBB.out.below hj)).mono ?_
      rintro e w' ⟨A1, c1, rfl, hown, hb⟩
      exact ⟨_, rfl, ⟨A1, c1, rfl, hown⟩, hb, hj.trans (hb.mono hj.size)⟩
    | 22, ho =>
      cases ho
      intro V aa wx hV hdep hval hj hsm hr
      have e14 : aa.tmps.getD 14 undef = .pointer (some ⟨p, 0, none⟩) := hsm 14 (by decide)
      rw [Array.getD_eq_getD_getElem?] at e14
      unfold Oper.wp
      simp only [execOp, Act.eval, Array.getD_eq_getD_getElem?, e14]
      go_simp
      first | exact ⟨_, rfl, rfl, Below.refl _ _⟩ | exact ⟨_, rfl, rfl, Below.refl _ _, hj⟩ | exact ⟨_, rfl, Below.refl _ _, hj⟩ | exact ⟨_, rfl, hj⟩
    | 23, ho =>
      cases ho
      intro V aa wx hV hdep hval hj hsm hr
      have e23 : aa.tmps.getD 23 undef = .pointer (some ⟨X23, 0, none⟩) := hsm 23 (by decide)
      have hk := KX23.out.below hj KX23.out.lt
      have x0 : wx.cell? ⟨X23, 0, none⟩ = some (.string a1) := hk.cell 0
      have x1 : wx.cell? ⟨X23, 1, none⟩ = some (.int .i64 a2) := hk.cell 1
      have x2 : wx.cell? ⟨X23, 2, none⟩ = some (.int .i64 a3) := hk.cell 2
      have x3 : wx.cell? ⟨X23, 3, none⟩ = some (.int .i64 a4) := hk.cell 3
      have x4 : wx.cell? ⟨X23, 4, none⟩ = some (.int .i64 0) := hk.cell 4
      have x5 : wx.cell? ⟨X23, 5, none⟩ = some (.int .i64 0) := hk.cell 5
      have x6 : wx.cell? ⟨X23, 6, none⟩ = some (.int .i64 0) := hk.cell 6
      have x7 : wx.cell? ⟨X23, 7, none⟩ = some (.bool false) := hk.cell 7
      rw [Array.getD_eq_getD_getElem?] at e23
      unfold Oper.wp
      simp only [execOp, Act.eval, Array.getD_eq_getD_getElem?, e23]
      go_simp
      first | exact ⟨_, rfl, rfl, Below.refl _ _⟩ | exact ⟨_, rfl, rfl, Below.refl _ _, hj⟩ | exact ⟨_, rfl, Below.refl _ _, hj⟩ | exact ⟨_, rfl, hj⟩
    | 24, ho =>
      cases ho
      intro V aa wx hV hdep hval hj hsm hr
      have e106 : aa.tmps.getD 106 undef = .pointer (some ⟨p, 0, none⟩) := hr 106 (by decide) (by apply Array.mem_toList_iff.1; repeat (first | exact List.Mem.head _ | apply List.Mem.tail))
      have e107 : aa.tmps.getD 107 undef = .agg #[.string a1, .int .i64 a2, .int .i64 a3, .int .i64 a4, .int .i64 0, .int .i64 0, .int .i64 0, .bool false] := hr 107 (by decide) (by apply Array.mem_toList_iff.1; repeat (first | exact List.Mem.head _ | apply List.Mem.tail))
      rw [Array.getD_eq_getD_getElem?] at e106
      rw [Array.getD_eq_getD_getElem?] at e107
      unfold Oper.wp
      simp only [execOp, Act.eval, Array.getD_eq_getD_getElem?, e106, e107]
      go_simp
      refine (HAR.out wx (HBB.out.below hj)).mono ?_
      rintro e w' ⟨A1, c1, rfl, hown, hb⟩
      exact ⟨_, rfl, ⟨A1, c1, rfl, hown⟩, hb, hj.trans (hb.mono hj.size)⟩
    | 25, ho =>
      cases ho
      intro V aa wx hV hdep hval hj hsm hr
      have r105 := hr 105 (by decide) (by apply Array.mem_toList_iff.1; repeat (first | exact List.Mem.head _ | apply List.Mem.tail))
      have r108 := hr 108 (by decide) (by apply Array.mem_toList_iff.1; repeat (first | exact List.Mem.head _ | apply List.Mem.tail))
      obtain ⟨A5, c5, e105, h5⟩ := r105
      have e105 : aa.tmps.getD 105 undef = .slice A5 na c5 := e105
      obtain ⟨A8, c8, e108, h8⟩ := r108
      have e108 : aa.tmps.getD 108 undef = .slice A8 na c8 := e108
      rw [Array.getD_eq_getD_getElem?] at e105
      rw [Array.getD_eq_getD_getElem?] at e108
      unfold Oper.wp
      simp only [execOp, Act.eval, Array.getD_eq_getD_getElem?, e105, e108]
      go_simp
      refine (Same_b A5 A8 c5 c8 na ah h5 h8 HAH.out.1 (by have := HAH.out.2; omega)).mono ?_
      rintro e w' ⟨rfl, hb⟩
      exact ⟨_, rfl, rfl, hb, hj.trans (hb.mono hj.size)⟩
    | 26, ho =>
      cases ho
      intro V aa wx hV hdep hval hj hsm hr
      have e102 : aa.tmps.getD 102 undef = .bool true := hr 102 (by decide) (by apply Array.mem_toList_iff.1; repeat (first | exact List.Mem.head _ | apply List.Mem.tail))
      have e109 : aa.tmps.getD 109 undef = .bool true := hr 109 (by decide) (by apply Array.mem_toList_iff.1; repeat (first | exact List.Mem.head _ | apply List.Mem.tail))
      rw [Array.getD_eq_getD_getElem?] at e102
      rw [Array.getD_eq_getD_getElem?] at e109
      unfold Oper.wp
      simp only [execOp, Act.eval, Array.getD_eq_getD_getElem?, e102, e109]
      go_simp
      first | exact ⟨_, rfl, rfl, Below.refl _ _⟩ | exact ⟨_, rfl, rfl, Below.refl _ _, hj⟩ | exact ⟨_, rfl, Below.refl _ _, hj⟩ | exact ⟨_, rfl, hj⟩
    | 27, ho =>
      cases ho
      intro V aa wx hV hdep hval hj hsm hr
      have e110 : aa.tmps.getD 110 undef = .bool true := hr 110 (by decide) (by apply Array.mem_toList_iff.1; repeat (first | exact List.Mem.head _ | apply List.Mem.tail))
      rw [Array.getD_eq_getD_getElem?] at e110
      unfold Oper.wp
      simp only [execOp, Act.eval, Array.getD_eq_getD_getElem?, e110]
      go_simp
      first | exact ⟨_, rfl, rfl, Below.refl _ _⟩ | exact ⟨_, rfl, rfl, Below.refl _ _, hj⟩ | exact ⟨_, rfl, Below.refl _ _, hj⟩ | exact ⟨_, rfl, hj⟩
    | 28, ho =>
      cases ho
      intro V aa wx hV hdep hval hj hsm hr
      have e13 : aa.tmps.getD 13 undef = .pointer (some ⟨q, 0, none⟩) := hsm 13 (by decide)
      rw [Array.getD_eq_getD_getElem?] at e13
      unfold Oper.wp
      simp only [execOp, Act.eval, Array.getD_eq_getD_getElem?, e13]
      go_simp
      first | exact ⟨_, rfl, rfl, Below.refl _ _⟩ | exact ⟨_, rfl, rfl, Below.refl _ _, hj⟩ | exact ⟨_, rfl, Below.refl _ _, hj⟩ | exact ⟨_, rfl, hj⟩
    | 29, ho =>
      cases ho
      intro V aa wx hV hdep hval hj hsm hr
      have e1 : aa.tmps.getD 1 undef = .string a1 := hsm 1 (by decide)
      rw [Array.getD_eq_getD_getElem?] at e1
      unfold Oper.wp
      simp only [execOp, Act.eval, Array.getD_eq_getD_getElem?, e1]
      go_simp
      first | exact ⟨_, rfl, rfl, Below.refl _ _⟩ | exact ⟨_, rfl, rfl, Below.refl _ _, hj⟩ | exact ⟨_, rfl, Below.refl _ _, hj⟩ | exact ⟨_, rfl, hj⟩
    | 30, ho =>
      cases ho
      intro V aa wx hV hdep hval hj hsm hr
      have e3 : aa.tmps.getD 3 undef = .int .i64 a3 := hsm 3 (by decide)
      rw [Array.getD_eq_getD_getElem?] at e3
      unfold Oper.wp
      simp only [execOp, Act.eval, Array.getD_eq_getD_getElem?, e3]
      go_simp
      first | exact ⟨_, rfl, rfl, Below.refl _ _⟩ | exact ⟨_, rfl, rfl, Below.refl _ _, hj⟩ | exact ⟨_, rfl, Below.refl _ _, hj⟩ | exact ⟨_, rfl, hj⟩
    | 31, ho =>
      cases ho
      intro V aa wx hV hdep hval hj hsm hr
      have e112 : aa.tmps.getD 112 undef = .pointer (some ⟨q, 0, none⟩) := hr 112 (by decide) (by apply Array.mem_toList_iff.1; repeat (first | exact List.Mem.head _ | apply List.Mem.tail))
      have e113 : aa.tmps.getD 113 undef = .string a1 := hr 113 (by decide) (by apply Array.mem_toList_iff.1; repeat (first | exact List.Mem.head _ | apply List.Mem.tail))
      have e114 : aa.tmps.getD 114 undef = .int .i64 a3 := hr 114 (by decide) (by apply Array.mem_toList_iff.1; repeat (first | exact List.Mem.head _ | apply List.Mem.tail))
      rw [Array.getD_eq_getD_getElem?] at e112
      rw [Array.getD_eq_getD_getElem?] at e113
      rw [Array.getD_eq_getD_getElem?] at e114
      unfold Oper.wp
      simp only [execOp, Act.eval, Array.getD_eq_getD_getElem?, e112, e113, e114]
      go_simp
      refine (HSC.out wx (HBB.out.below hj)).mono ?_
      rintro e w' ⟨A1, c1, rfl, hown, hb⟩
      exact ⟨_, rfl, ⟨A1, c1, rfl, hown⟩, hb, hj.trans (hb.mono hj.size)⟩
    | 32, ho =>
      cases ho
      intro V aa wx hV hdep hval hj hsm hr
      have e14 : aa.tmps.getD 14 undef = .pointer (some ⟨p, 0, none⟩) := hsm 14 (by decide)
      rw [Array.getD_eq_getD_getElem?] at e14
      unfold Oper.wp
      simp only [execOp, Act.eval, Array.getD_eq_getD_getElem?, e14]
      go_simp
      first | exact ⟨_, rfl, rfl, Below.refl _ _⟩ | exact ⟨_, rfl, rfl, Below.refl _ _, hj⟩ | exact ⟨_, rfl, Below.refl _ _, hj⟩ | exact ⟨_, rfl, hj⟩
    | 33, ho =>
      cases ho
      intro V aa wx hV hdep hval hj hsm hr
      have e1 : aa.tmps.getD 1 undef = .string a1 := hsm 1 (by decide)
      rw [Array.getD_eq_getD_getElem?] at e1
      unfold Oper.wp
      simp only [execOp, Act.eval, Array.getD_eq_getD_getElem?, e1]
      go_simp
      first | exact ⟨_, rfl, rfl, Below.refl _ _⟩ | exact ⟨_, rfl, rfl, Below.refl _ _, hj⟩ | exact ⟨_, rfl, Below.refl _ _, hj⟩ | exact ⟨_, rfl, hj⟩
    | 34, ho =>
      cases ho
      intro V aa wx hV hdep hval hj hsm hr
      have e3 : aa.tmps.getD 3 undef = .int .i64 a3 := hsm 3 (by decide)
      rw [Array.getD_eq_getD_getElem?] at e3
      unfold Oper.wp
      simp only [execOp, Act.eval, Array.getD_eq_getD_getElem?, e3]
      go_simp
      first | exact ⟨_, rfl, rfl, Below.refl _ _⟩ | exact ⟨_, rfl, rfl, Below.refl _ _, hj⟩ | exact ⟨_, rfl, Below.refl _ _, hj⟩ | exact ⟨_, rfl, hj⟩
    | 35, ho =>
      cases ho
      intro V aa wx hV hdep hval hj hsm hr
      have e116 : aa.tmps.getD 116 undef = .pointer (some ⟨p, 0, none⟩) := hr 116 (by decide) (by apply Array.mem_toList_iff.1; repeat (first | exact List.Mem.head _ | apply List.Mem.tail))
      have e117 : aa.tmps.getD 117 undef = .string a1 := hr 117 (by decide) (by apply Array.mem_toList_iff.1; repeat (first | exact List.Mem.head _ | apply List.Mem.tail))
      have e118 : aa.tmps.getD 118 undef = .int .i64 a3 := hr 118 (by decide) (by apply Array.mem_toList_iff.1; repeat (first | exact List.Mem.head _ | apply List.Mem.tail))
      rw [Array.getD_eq_getD_getElem?] at e116
      rw [Array.getD_eq_getD_getElem?] at e117
      rw [Array.getD_eq_getD_getElem?] at e118
      unfold Oper.wp
      simp only [execOp, Act.eval, Array.getD_eq_getD_getElem?, e116, e117, e118]
      go_simp
      refine (HSR.out wx (HBB.out.below hj)).mono ?_
      rintro e w' ⟨A1, c1, rfl, hown, hb⟩
      exact ⟨_, rfl, ⟨A1, c1, rfl, hown⟩, hb, hj.trans (hb.mono hj.size)⟩
    | 36, ho =>
      cases ho
      intro V aa wx hV hdep hval hj hsm hr
      have r115 := hr 115 (by decide) (by apply Array.mem_toList_iff.1; repeat (first | exact List.Mem.head _ | apply List.Mem.tail))
      have r119 := hr 119 (by decide) (by apply Array.mem_toList_iff.1; repeat (first | exact List.Mem.head _ | apply List.Mem.tail))
      obtain ⟨A5, c5, e115, h5⟩ := r115
      have e115 : aa.tmps.getD 115 undef = .slice A5 ns c5 := e115
      obtain ⟨A8, c8, e119, h8⟩ := r119
      have e119 : aa.tmps.getD 119 undef = .slice A8 ns c8 := e119
      rw [Array.getD_eq_getD_getElem?] at e115
      rw [Array.getD_eq_getD_getElem?] at e119
      unfold Oper.wp
      simp only [execOp, Act.eval, Array.getD_eq_getD_getElem?, e115, e119]
      go_simp
      refine (Ints_b A5 A8 c5 c8 ns sn h5 h8 HSN.out.1 (by have := HSN.out.2; omega)).mono ?_
      rintro e w' ⟨rfl, hb⟩
      exact ⟨_, rfl, rfl, hb, hj.trans (hb.mono hj.size)⟩
    | 37, ho =>
      cases ho
      intro V aa wx hV hdep hval hj hsm hr
      have e111 : aa.tmps.getD 111 undef = .bool true := hr 111 (by decide) (by apply Array.mem_toList_iff.1; repeat (first | exact List.Mem.head _ | apply List.Mem.tail))
      have e120 : aa.tmps.getD 120 undef = .bool true := hr 120 (by decide) (by apply Array.mem_toList_iff.1; repeat (first | exact List.Mem.head _ | apply List.Mem.tail))
      rw [Array.getD_eq_getD_getElem?] at e111
      rw [Array.getD_eq_getD_getElem?] at e120
      unfold Oper.wp
      simp only [execOp, Act.eval, Array.getD_eq_getD_getElem?, e111, e120]
      go_simp
      first | exact ⟨_, rfl, rfl, Below.refl _ _⟩ | exact ⟨_, rfl, rfl, Below.refl _ _, hj⟩ | exact ⟨_, rfl, Below.refl _ _, hj⟩ | exact ⟨_, rfl, hj⟩
    | 38, ho =>
      cases ho
      intro V aa wx hV hdep hval hj hsm hr
      have e121 : aa.tmps.getD 121 undef = .bool true := hr 121 (by decide) (by apply Array.mem_toList_iff.1; repeat (first | exact List.Mem.head _ | apply List.Mem.tail))
      rw [Array.getD_eq_getD_getElem?] at e121
      unfold Oper.wp
      simp only [execOp, Act.eval, Array.getD_eq_getD_getElem?, e121]
      go_simp
      first | exact ⟨_, rfl, rfl, Below.refl _ _⟩ | exact ⟨_, rfl, rfl, Below.refl _ _, hj⟩ | exact ⟨_, rfl, Below.refl _ _, hj⟩ | exact ⟨_, rfl, hj⟩
    | _ + 39, ho => cases ho
  case fin =>
    intro ff V wz hV hj hr
    have e12 : ff 12 = .bool true := hr 12 (by decide)
    have HZ := hide (HWW.out.trans (hj.mono HWW.out.size))
    clear hV hr hj
    simp only [putAll, slotsOf, List.filterMap_cons, List.filterMap_nil, List.foldl_cons, List.foldl_nil, Act.put, e12]
    simp only [List.setIfInBounds_toArray, List.set_cons_succ, List.set_cons_zero]
    go_wp2_with fail
    go_ret
    exact ⟨rfl, HZ.out⟩
end Go.Proofs.Ytomladbdebfikaa.QueueTellsW
