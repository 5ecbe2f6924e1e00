/- The walk of the statement PostedNil. -/
import Derived.Test.YtonmojinijpneaaRows
import Derived.Test.YtonmojinijpneaaPoI
namespace Go.Proofs.Ytonmojinijpneaa.PostedNilW
open Go Go.Joins Go.ChangeShapes Go.WideShapes Go.RowKit Go.Deep Go.Lib Go.Proofs.Ytonmojinijpneaa Go.Proofs.Ytonmojinijpneaa.Po
set_option linter.unusedVariables false
set_option linter.unusedSimpArgs false
theorem actSize : (Try.prog.info? 37).map (·.size) = some 18 := by kernel_rfl
set_option maxRecDepth 100000 in
set_option maxHeartbeats 16000000 in
theorem walk {H : Type} {enc : TypeId × Value → H} {base : Nat} (W : World) (v0 : Value) (d0 : DataW H) (p0 : List MemPlace) (o0 : Value.okWide Try.prog W .any base 37 v0) (r0 : DataW.Trod enc Try.prog W 0 (fun _ => true) true 37 v0 d0 p0) :
    Calls Try.prog 5 #[v0] W fun e w' => e = .returned (.bool true) ∧ Below W.heap.size W w' := by
  obtain ⟨kd, mkey, mfr, mto, mca, mtg, mva, msz, mtk, rkey, rrk, rca, rpe, rtg, rrq, rdn, rfr, rsq, rfl⟩ := act_of o0 r0
  clear o0 r0
  have b1 := (Below.refl W.heap.size W).alloc (Nat.le_refl _) (.cells #[.int .u8 kd, .string mkey, .int .i64 mfr, .int .i64 mto, .int .i64 mca, .int .i64 mtg, .int .i64 mva, .int .i64 msz, .bool mtk, .string rkey, .int .i64 rrk, .int .i64 rca, .int .i64 rpe, .int .i64 rtg, .int .i64 rrq, .bool rdn, .int .i64 rfr, .int .i64 rsq] 37)
  have k1 := Blk.new W 37 #[.int .u8 kd, .string mkey, .int .i64 mfr, .int .i64 mto, .int .i64 mca, .int .i64 mtg, .int .i64 mva, .int .i64 msz, .bool mtk, .string rkey, .int .i64 rrk, .int .i64 rca, .int .i64 rpe, .int .i64 rtg, .int .i64 rrq, .bool rdn, .int .i64 rfr, .int .i64 rsq]
  obtain ⟨w1, hw1⟩ : ∃ z, W.alloc (.cells #[.int .u8 kd, .string mkey, .int .i64 mfr, .int .i64 mto, .int .i64 mca, .int .i64 mtg, .int .i64 mva, .int .i64 msz, .bool mtk, .string rkey, .int .i64 rrk, .int .i64 rca, .int .i64 rpe, .int .i64 rtg, .int .i64 rrq, .bool rdn, .int .i64 rfr, .int .i64 rsq] 37) = z := ⟨_, rfl⟩
  obtain ⟨X, hX⟩ : ∃ z, W.heap.size = z := ⟨_, rfl⟩
  have s1 : w1.heap.size = W.heap.size + 1 := by rw [← hw1]; simp
  rw [hw1] at b1 k1
  have b2 := (Below.refl w1.heap.size w1).alloc (Nat.le_refl _) (.cells #[.int .u8 kd, .string mkey, .int .i64 mfr, .int .i64 mto, .int .i64 mca, .int .i64 mtg, .int .i64 mva, .int .i64 msz, .bool mtk, .string rkey, .int .i64 rrk, .int .i64 rca, .int .i64 rpe, .int .i64 rtg, .int .i64 rrq, .bool rdn, .int .i64 rfr, .int .i64 rsq] 37)
  have k2 := Blk.new w1 37 #[.int .u8 kd, .string mkey, .int .i64 mfr, .int .i64 mto, .int .i64 mca, .int .i64 mtg, .int .i64 mva, .int .i64 msz, .bool mtk, .string rkey, .int .i64 rrk, .int .i64 rca, .int .i64 rpe, .int .i64 rtg, .int .i64 rrq, .bool rdn, .int .i64 rfr, .int .i64 rsq]
  obtain ⟨w2, hw2⟩ : ∃ z, w1.alloc (.cells #[.int .u8 kd, .string mkey, .int .i64 mfr, .int .i64 mto, .int .i64 mca, .int .i64 mtg, .int .i64 mva, .int .i64 msz, .bool mtk, .string rkey, .int .i64 rrk, .int .i64 rca, .int .i64 rpe, .int .i64 rtg, .int .i64 rrq, .bool rdn, .int .i64 rfr, .int .i64 rsq] 37) = z := ⟨_, rfl⟩
  have s2 : w2.heap.size = W.heap.size + 2 := by rw [← hw2]; simp [s1]
  rw [hw2] at b2 k2
  rw [hX] at k1 s1 s2
  rw [s1] at k2
  have kk := k1.below b2 (by omega)
  have HW1 := hide hw1
  have HW2 := hide hw2
  have HX := hide hX
  have S2 := hide s2
  have S1 := hide s1
  have KK := hide kk
  have K1 := hide k1
  have B2 : Hid (Below W.heap.size W w2) := hide (b1.trans (b2.mono (by omega)))
  have c1 : w2.cell? ⟨X + 1, 1, none⟩ = some (.string mkey) := k2.cell 1
  have c9 : w2.cell? ⟨X + 1, 9, none⟩ = some (.string rkey) := k2.cell 9
  have GC := hide (great_one w2 (X + 1) mkey rkey c1 c9)
  clear b1 b2 k1 k2 kk hw1 hw2 hX s1 s2 c1 c9
  by_cases hbig : 100 < mkey.size ∨ 100 < rkey.size
  · have GC2 : Hid (Calls Try.prog 10 #[.slice (some ⟨X + 1, 0, none⟩) 1 1] w2 fun e w' => e = .returned (.bool true) ∧ w2 = w') := hide (by
      have h := GC.out
      rwa [show decide (100 < mkey.size ∨ 100 < rkey.size) = true from decide_eq_true hbig] at h)
    clear GC
    go_enter Try.func5, Try.ntmps5
    go_upto_region 1 with (fail)
    rw [HW1.out, HX.out]
    go_wp2_with (refine wpList_load_row rfl 37 _ rfl X rfl 37 #[.int .u8 kd, .string mkey, .int .i64 mfr, .int .i64 mto, .int .i64 mca, .int .i64 mtg, .int .i64 mva, .int .i64 msz, .bool mtk, .string rkey, .int .i64 rrk, .int .i64 rca, .int .i64 rpe, .int .i64 rtg, .int .i64 rrq, .bool rdn, .int .i64 rfr, .int .i64 rsq] (0, 0) _ K1.out Try.underlying37 rfl actSize ?_)
    rw [HW2.out, S1.out]
    refine GC2.out.mono ?_
    rintro e w' ⟨rfl, rfl⟩
    go_wp2_with fail
    go_ret
    exact ⟨rfl, B2.out⟩
  have GC2 : Hid (Calls Try.prog 10 #[.slice (some ⟨X + 1, 0, none⟩) 1 1] w2 fun e w' => e = .returned (.bool false) ∧ w2 = w') := hide (by
    have h := GC.out
    rwa [show decide (100 < mkey.size ∨ 100 < rkey.size) = false from decide_eq_false hbig] at h)
  clear GC hbig
  go_enter Try.func5, Try.ntmps5
  go_upto_region 1 with (fail)
  rw [HW1.out, HX.out]
  go_wp2_with (refine wpList_load_row rfl 37 _ rfl X rfl 37 #[.int .u8 kd, .string mkey, .int .i64 mfr, .int .i64 mto, .int .i64 mca, .int .i64 mtg, .int .i64 mva, .int .i64 msz, .bool mtk, .string rkey, .int .i64 rrk, .int .i64 rca, .int .i64 rpe, .int .i64 rtg, .int .i64 rrq, .bool rdn, .int .i64 rfr, .int .i64 rsq] (0, 0) _ K1.out Try.underlying37 rfl actSize ?_)
  rw [HW2.out, S1.out]
  refine GC2.out.mono ?_
  rintro e w' ⟨rfl, rfl⟩
  clear GC2 HW1 HW2 K1
  go_wp2_with fail
  refine (Qu.New_c w2).mono ?_
  rintro e w3 ⟨q, L, rfl, hq, hF, hb3⟩
  have KK3 := hide (KK.out.below hb3 KK.out.lt)
  have e1 : w3.cell? ⟨X, 1, none⟩ = some (.string mkey) := KK3.out.cell 1
  have e2 : w3.cell? ⟨X, 2, none⟩ = some (.int .i64 mfr) := KK3.out.cell 2
  have e3 : w3.cell? ⟨X, 3, none⟩ = some (.int .i64 mto) := KK3.out.cell 3
  have e4 : w3.cell? ⟨X, 4, none⟩ = some (.int .i64 mca) := KK3.out.cell 4
  have e5 : w3.cell? ⟨X, 5, none⟩ = some (.int .i64 mtg) := KK3.out.cell 5
  have e6 : w3.cell? ⟨X, 6, none⟩ = some (.int .i64 mva) := KK3.out.cell 6
  have e7 : w3.cell? ⟨X, 7, none⟩ = some (.int .i64 msz) := KK3.out.cell 7
  have e8 : w3.cell? ⟨X, 8, none⟩ = some (.bool mtk) := KK3.out.cell 8
  have SC := hide (Qu.Send_c hq ⟨mkey, mfr, mto, mca, mtg, mva, msz, mtk⟩ (by simp))
  have BK4 : Hid (∀ w4, Qu.Goes w3 q L (Qu.sendL [] ⟨mkey, mfr, mto, mca, mtg, mva, msz, mtk⟩) w4 → Below w2.heap.size w2 w4) := hide (fun w4 h => by
    obtain ⟨L', _, h2, _⟩ := h
    exact hb3.trans (h2.below hF hb3.size))
  clear hq hF hb3
  go_wp2_with fail
  refine SC.out.mono ?_
  rintro e w4 ⟨rfl, hg4⟩
  have B4 := hide (BK4.out w4 hg4)
  have K4 := hide (KK.out.below B4.out KK.out.lt)
  clear hg4 SC BK4 KK3 e1 e2 e3 e4 e5 e6 e7 e8
  have b5 := (Below.refl w4.heap.size w4).alloc (Nat.le_refl _) (.cells Try.zeroCells60 60)
  have k5 := Blk.new w4 60 Try.zeroCells60
  obtain ⟨w5, hw5⟩ : ∃ z, w4.alloc (.cells Try.zeroCells60 60) = z := ⟨_, rfl⟩
  have s5 : w5.heap.size = w4.heap.size + 1 := by rw [← hw5]; simp
  rw [hw5] at b5 k5
  have b6 := (Below.refl w5.heap.size w5).alloc (Nat.le_refl _) (.cells #[.pointer none, .pointer (some ⟨w4.heap.size, 0, none⟩)] 27)
  have k6 := Blk.new w5 27 #[.pointer none, .pointer (some ⟨w4.heap.size, 0, none⟩)]
  obtain ⟨w6, hw6⟩ : ∃ z, w5.alloc (.cells #[.pointer none, .pointer (some ⟨w4.heap.size, 0, none⟩)] 27) = z := ⟨_, rfl⟩
  have s6 : w6.heap.size = w4.heap.size + 2 := by rw [← hw6]; simp [s5]
  rw [hw6] at b6 k6
  rw [s5] at k6
  have k56 := k5.below b6 (by omega)
  have K6 := hide ((K4.out.below b5 K4.out.lt).below b6 (by have := K4.out.lt; omega))
  have PN6 : Hid (∀ k : Nat, k < 2 → ∃ t, w6.cell? ⟨w4.heap.size + 1, k, none⟩ = some (.pointer t) ∧ PN w6 t) := hide (fun k hk => by
    rcases Nat.lt_or_ge k 1 with h | h
    · obtain rfl : k = 0 := by omega
      exact ⟨_, k6.cell 0, .inl rfl⟩
    · obtain rfl : k = 1 := by omega
      exact ⟨_, k6.cell 1, .inr ⟨w4.heap.size, rfl, k56.lt, (k56.cell 0).trans (by kernel_rfl)⟩⟩)
  have B6 : Hid (Below W.heap.size W w6) := hide ((B2.out.trans (B4.out.mono B2.out.size)).trans ((b5.trans (b6.mono (by omega))).mono (by have := B2.out.size; have := B4.out.size; omega)))
  have HW5 := hide hw5
  have HW6 := hide hw6
  have S6 := hide (show w4.heap.size + 1 < w6.heap.size by omega)
  clear b5 b6 k5 k6 k56 hw5 hw6 s5 s6 B2 B4 K4
  go_wp2_with fail
  rw [HW5.out, HW6.out]
  clear HW5 HW6
  go_loopw [6, 7, 8, 9] (fun v6 _ _ _ wr => (∃ k : Nat, k ≤ 2 ∧ v6 = .int .i64 k) ∧ Hid (Below w6.heap.size w6 wr)) (fun v6 _ _ _ _ => 2 - (RowKit.intOf v6).toNat)
  case atStart => exact ⟨⟨0, by omega, rfl⟩, hide (Below.refl _ _)⟩
  case round =>
    obtain ⟨⟨k, hk, rfl⟩, HB⟩ := hrel
    rename World => wr
    have KR := hide (K6.out.below HB.out K6.out.lt)
    by_cases hlt : k < 2
    · have hltI : (k : Int) < 2 := by omega
      obtain ⟨t, hct, hpn⟩ := PN6.out k hlt
      have hct := (HB.out.cell (p := ⟨w4.heap.size + 1, k, none⟩) S6.out).trans hct
      have Hnm := hide (hpn.below HB.out)
      clear hpn
      have r10 : wr.cell? ⟨X, 10, none⟩ = some (.int .i64 rrk) := KR.out.cell 10
      have r11 : wr.cell? ⟨X, 11, none⟩ = some (.int .i64 rca) := KR.out.cell 11
      go_wp2_with fail
      refine (at_no _ _ _ _ Hnm.out).mono ?_
      rintro e W1 ⟨rfl, hb1⟩
      have hb2 := hb1.trans ((Below.refl _ W1).alloc hb1.size (.cells #[.string ⟨#[]⟩, .int .i64 0, .int .i64 0, .int .i64 0, .int .i64 0, .int .i64 0, .bool false, .int .i64 0, .int .i64 0] 35))
      go_upto_region 12 with (fail)
      generalize (W1.alloc (.cells #[.string ⟨#[]⟩, .int .i64 0, .int .i64 0, .int .i64 0, .int .i64 0, .int .i64 0, .bool false, .int .i64 0, .int .i64 0] 35)) = W2 at *
      have HB2 := hide (HB.out.trans (hb2.mono HB.out.size))
      have K2 := KR.out.below hb2 KR.out.lt
      have NM2 : Hid (∀ q : BelowOf W2, PN q.world t) := hide (fun q => (Hnm.out.below hb2).below q.below)
      clear hb1 hb2 hct r10 r11 HB KR Hnm
      have m2 : ∀ q : BelowOf W2, q.world.cell? ⟨X, 2, none⟩ = some (.int .i64 mfr) := fun q => q.cell K2.lt (K2.cell 2)
      have m4 : ∀ q : BelowOf W2, q.world.cell? ⟨X, 4, none⟩ = some (.int .i64 mca) := fun q => q.cell K2.lt (K2.cell 4)
      have m9 : ∀ q : BelowOf W2, q.world.cell? ⟨X, 9, none⟩ = some (.string rkey) := fun q => q.cell K2.lt (K2.cell 9)
      have m10 : ∀ q : BelowOf W2, q.world.cell? ⟨X, 10, none⟩ = some (.int .i64 rrk) := fun q => q.cell K2.lt (K2.cell 10)
      have m11 : ∀ q : BelowOf W2, q.world.cell? ⟨X, 11, none⟩ = some (.int .i64 rca) := fun q => q.cell K2.lt (K2.cell 11)
      have m12 : ∀ q : BelowOf W2, q.world.cell? ⟨X, 12, none⟩ = some (.int .i64 rpe) := fun q => q.cell K2.lt (K2.cell 12)
      have m13 : ∀ q : BelowOf W2, q.world.cell? ⟨X, 13, none⟩ = some (.int .i64 rtg) := fun q => q.cell K2.lt (K2.cell 13)
      have m14 : ∀ q : BelowOf W2, q.world.cell? ⟨X, 14, none⟩ = some (.int .i64 rrq) := fun q => q.cell K2.lt (K2.cell 14)
      have m15 : ∀ q : BelowOf W2, q.world.cell? ⟨X, 15, none⟩ = some (.bool rdn) := fun q => q.cell K2.lt (K2.cell 15)
      have m16 : ∀ q : BelowOf W2, q.world.cell? ⟨X, 16, none⟩ = some (.int .i64 rfr) := fun q => q.cell K2.lt (K2.cell 16)
      have m17 : ∀ q : BelowOf W2, q.world.cell? ⟨X, 17, none⟩ = some (.int .i64 rsq) := fun q => q.cell K2.lt (K2.cell 17)
      clear K2
      refine wp_region_quiet_below (by kernel_rfl) (by kernel_rfl) ?_
      repeat (go_big_quiet_step (first
        | (go_at_call 29; refine calls_below (post_no _ _ _ _ _ _ _ _ _ _ _ (NM2.out _)))
        | (go_at_call 30; refine calls_below (match_no _ _ _ _ _ _ _ (NM2.out _)))
        | (go_at_call 16; refine calls_below_same (waiting_no _ _ _ (NM2.out _)))
        | (go_at_call 23; refine calls_below_same (may_no _ _ _ _ _ (NM2.out _)))
        | (go_at_call 25; refine calls_below (probe_no _ _ _ _ _ _ _ _ _ _ _ _ (NM2.out _)))))
      refine wpQuiet_nil ?_
      rintro Wq ⟨⟨_, hq⟩, rfl⟩
      have HBQ := hide (HB2.out.trans (hq.mono HB2.out.size))
      clear hq HB2 NM2 m2 m4 m9 m10 m11 m12 m13 m14 m15 m16 m17
      go_wp2_with fail
      go_roundw
      case rel => exact ⟨⟨k + 1, by omega, by go_num⟩, HBQ⟩
      case measure => simp [RowKit.intOf]; omega
    · obtain rfl : k = 2 := by omega
      go_wp2_with fail
      refine (New_c wr).mono ?_
      rintro e w8 ⟨p, L8, rfl, hp, hF, hb8⟩
      have K8 := hide (KR.out.below hb8 KR.out.lt)
      have n9 : w8.cell? ⟨X, 9, none⟩ = some (.string rkey) := K8.out.cell 9
      have n10 : w8.cell? ⟨X, 10, none⟩ = some (.int .i64 rrk) := K8.out.cell 10
      have n11 : w8.cell? ⟨X, 11, none⟩ = some (.int .i64 rca) := K8.out.cell 11
      have n12 : w8.cell? ⟨X, 12, none⟩ = some (.int .i64 rpe) := K8.out.cell 12
      have n13 : w8.cell? ⟨X, 13, none⟩ = some (.int .i64 rtg) := K8.out.cell 13
      have n14 : w8.cell? ⟨X, 14, none⟩ = some (.int .i64 rrq) := K8.out.cell 14
      have n15 : w8.cell? ⟨X, 15, none⟩ = some (.bool rdn) := K8.out.cell 15
      have n16 : w8.cell? ⟨X, 16, none⟩ = some (.int .i64 rfr) := K8.out.cell 16
      have n17 : w8.cell? ⟨X, 17, none⟩ = some (.int .i64 rsq) := K8.out.cell 17
      have PC := hide (Post_c hp (fun k _ => Nat.zero_le _) rkey rrk rca rpe rtg rrq rdn rfr rsq)
      have BK9 : Hid (∀ w9, Qu.Ch (pfoot p L8) w8 w9 → Below wr.heap.size wr w9) := hide (fun w9 h => hb8.trans (h.below hF hb8.size))
      clear hp hF hb8
      go_wp2_with fail
      refine PC.out.mono ?_
      rintro e w9 ⟨rfl, L9, hp9, hch, _⟩
      have B9 := BK9.out w9 hch
      have K9 := KR.out.below B9 KR.out.lt
      have HB9 := hide ((B6.out.trans (HB.out.mono B6.out.size)).trans (B9.mono (by have := B6.out.size; have := HB.out.size; omega)))
      have P9 : Hid (∀ q : BelowOf w9, PSt q.world p L9 (postL ls0 ⟨rkey, rrk, rca, rpe, rtg, rrq, rdn, rfr, rsq⟩)) := hide (fun q => hp9.below q.below)
      have LN : Hid (∀ k, k < 64 → (postL ls0 ⟨rkey, rrk, rca, rpe, rtg, rrq, rdn, rfr, rsq⟩ k).length ≤ 1000) := hide (fun k _ => by
        unfold postL
        split
        · unfold updF
          split
          · simp [ls0]
          · simp [ls0]
        · simp [ls0])
      clear hp9 hch B9 PC BK9 K8 n9 n10 n11 n12 n13 n14 n15 n16 n17
      have m2 : ∀ q : BelowOf w9, q.world.cell? ⟨X, 2, none⟩ = some (.int .i64 mfr) := fun q => q.cell K9.lt (K9.cell 2)
      have m4 : ∀ q : BelowOf w9, q.world.cell? ⟨X, 4, none⟩ = some (.int .i64 mca) := fun q => q.cell K9.lt (K9.cell 4)
      have m9 : ∀ q : BelowOf w9, q.world.cell? ⟨X, 9, none⟩ = some (.string rkey) := fun q => q.cell K9.lt (K9.cell 9)
      have m10 : ∀ q : BelowOf w9, q.world.cell? ⟨X, 10, none⟩ = some (.int .i64 rrk) := fun q => q.cell K9.lt (K9.cell 10)
      have m11 : ∀ q : BelowOf w9, q.world.cell? ⟨X, 11, none⟩ = some (.int .i64 rca) := fun q => q.cell K9.lt (K9.cell 11)
      have m12 : ∀ q : BelowOf w9, q.world.cell? ⟨X, 12, none⟩ = some (.int .i64 rpe) := fun q => q.cell K9.lt (K9.cell 12)
      have m13 : ∀ q : BelowOf w9, q.world.cell? ⟨X, 13, none⟩ = some (.int .i64 rtg) := fun q => q.cell K9.lt (K9.cell 13)
      have m14 : ∀ q : BelowOf w9, q.world.cell? ⟨X, 14, none⟩ = some (.int .i64 rrq) := fun q => q.cell K9.lt (K9.cell 14)
      have m15 : ∀ q : BelowOf w9, q.world.cell? ⟨X, 15, none⟩ = some (.bool rdn) := fun q => q.cell K9.lt (K9.cell 15)
      have m16 : ∀ q : BelowOf w9, q.world.cell? ⟨X, 16, none⟩ = some (.int .i64 rfr) := fun q => q.cell K9.lt (K9.cell 16)
      have m17 : ∀ q : BelowOf w9, q.world.cell? ⟨X, 17, none⟩ = some (.int .i64 rsq) := fun q => q.cell K9.lt (K9.cell 17)
      clear K9
      go_upto_region 16 with (fail)
      refine wp_region_quiet_below (by kernel_rfl) (by kernel_rfl) ?_
      repeat (go_big_quiet_step (first
        | (go_at_call 32; refine calls_below_same (copy_no _ _ (.inl rfl)))
        | (go_at_call 23; refine calls_below (may_nq (P9.out _) LN.out _ _))
        | (go_at_call 25; refine calls_below (probe_nq (P9.out _) _ _ _ _ _ _ _ _ _))
        | (go_at_call 30; refine calls_below (match_nq (P9.out _) LN.out _ _ _ _))))
      refine wpQuiet_nil ?_
      rintro Wq ⟨⟨_, hq⟩, rfl⟩
      go_wp2_with fail
      go_ret
      exact ⟨rfl, HB9.out.trans (hq.mono HB9.out.size)⟩
end Go.Proofs.Ytonmojinijpneaa.PostedNilW
