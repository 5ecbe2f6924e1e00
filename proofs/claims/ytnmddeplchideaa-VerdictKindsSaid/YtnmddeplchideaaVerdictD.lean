/- The walk of the statement VerdictKinds: of any two verdicts; without conditions. -/
import Derived.Test.YtnmddeplchideaaRows
import Derived.Test.YtnmddeplchideaaTreeWords
import Derived.Test.YtnmddeplchideaaQuietBelow
import Derived.Test.YtnmddeplchideaaVerdictC
namespace Go.Proofs.Ytnmddeplchideaa.VerdictKindsW
open Go.Joins Go.ChangeShapes Go.WideShapes Go.RowKit Go.Deep Go.Proofs.Ytnmddeplchideaa
set_option linter.unusedVariables false
set_option linter.unusedSimpArgs false
set_option maxRecDepth 100000 in
set_option maxHeartbeats 1000000 in
theorem eqStr (A B : Option Addr) (n m c d : Nat) (X Y : Nat → ByteArray) (w : World) (hX : RStr w A n X) (hY : RStr w B m Y) :
    Calls Try.prog 44 #[.slice A n c, .slice B m d] w fun e w' => e = .returned (.bool (eqRows n m X Y)) ∧ Below w.heap.size w w' := by
  have hn := hX.1
  unfold maxLen at hn
  have HX := hide hX
  have HY := hide hY
  clear hX hY
  by_cases hnm : n = m
  · subst hnm
    go_enter Try.func44, Try.ntmps44
    go_wp2_with fail
    go_loopw [13] (fun i wr => ∃ k : Nat, k ≤ n ∧ i = .int .i64 k ∧ Hid (eqTo X Y k = true) ∧ Below w.heap.size w wr) (fun i _ => n - (intOf i).toNat)
    case atStart => exact ⟨0, by omega, rfl, hide rfl, Below.refl _ _⟩
    case round =>
      obtain ⟨k, hk, rfl, he, hB⟩ := hrel
      have HB := hide hB
      by_cases hlt : k < n
      · obtain ⟨a, rfl, ha, p0⟩ := (HX.out.below hB).at_ hlt
        obtain ⟨b, rfl, hb, q0⟩ := (HY.out.below hB).at_ hlt
        clear hB
        by_cases hxy : X k = Y k
        · have Hxy := hide hxy
          have hd : ((X k).toList == (Y k).toList) = true := by rw [hxy]; simp
          have hd2 : ((X k).toList != (Y k).toList) = false := by rw [hxy]; simp
          clear hxy
          go_wp2_with fail
          go_quiet (fail)
          go_wp2_with fail
          go_roundw
          case rel => exact ⟨k + 1, by omega, by go_num, hide (by rw [eqTo_snoc, he.out]; simpa using Hxy.out), below_drewN HB.out _⟩
          case measure => simp [intOf]; omega
        · have Hxy := hide hxy
          have hd : ((X k).toList == (Y k).toList) = false := by rw [beq_eq_false_iff_ne]; exact fun e => hxy (toList_inj e)
          have hd2 : ((X k).toList != (Y k).toList) = true := by simp only [bne, hd]; rfl
          clear hxy
          go_wp2_with fail
          go_quiet (fail)
          go_wp2_with fail
          go_ret
          exact ⟨by rw [eqRows_false hlt Hxy.out]; rfl, below_drewN HB.out _⟩
      · obtain rfl : k = n := by omega
        clear hB
        have E := hide (eqRows_of he.out)
        go_wp2_with fail
        go_ret
        exact ⟨by rw [E.out]; rfl, HB.out⟩
  · have h0 : ¬ (n : Int) = (m : Int) := by omega
    have h1 : ((n : Int) == (m : Int)) = false := by simpa using h0
    have h2 : ((n : Int) != (m : Int)) = true := by simpa using h0
    clear h0
    go_enter Try.func44, Try.ntmps44
    go_wp2_with fail
    go_ret
    exact ⟨by simp [eqRows, hnm], Below.refl _ _⟩
set_option maxRecDepth 100000 in
set_option maxHeartbeats 1000000 in
theorem eqStr2 (A B : Option Addr) (n m c d : Nat) (X Y : Nat → ByteArray) (w : World) (hX : RStr w A n X) (hY : RStr w B m Y) :
    Calls Try.prog 47 #[.slice A n c, .slice B m d] w fun e w' => e = .returned (.bool (eqRows n m X Y)) ∧ Below w.heap.size w w' := by
  have hn := hX.1
  unfold maxLen at hn
  have HX := hide hX
  have HY := hide hY
  clear hX hY
  by_cases hnm : n = m
  · subst hnm
    go_enter Try.func47, Try.ntmps47
    go_wp2_with fail
    go_loopw [5] (fun i wr => ∃ k : Nat, k ≤ n ∧ i = .int .i64 k ∧ Hid (eqTo X Y k = true) ∧ Below w.heap.size w wr) (fun i _ => n - (intOf i).toNat)
    case atStart => exact ⟨0, by omega, rfl, hide rfl, Below.refl _ _⟩
    case round =>
      obtain ⟨k, hk, rfl, he, hB⟩ := hrel
      have HB := hide hB
      by_cases hlt : k < n
      · obtain ⟨a, rfl, ha, p0⟩ := (HX.out.below hB).at_ hlt
        obtain ⟨b, rfl, hb, q0⟩ := (HY.out.below hB).at_ hlt
        clear hB
        by_cases hxy : X k = Y k
        · have Hxy := hide hxy
          have hd : ((X k).toList == (Y k).toList) = true := by rw [hxy]; simp
          have hd2 : ((X k).toList != (Y k).toList) = false := by rw [hxy]; simp
          clear hxy
          go_wp2_with fail
          go_quiet (fail)
          go_wp2_with fail
          go_roundw
          case rel => exact ⟨k + 1, by omega, by go_num, hide (by rw [eqTo_snoc, he.out]; simpa using Hxy.out), below_drewN HB.out _⟩
          case measure => simp [intOf]; omega
        · have Hxy := hide hxy
          have hd : ((X k).toList == (Y k).toList) = false := by rw [beq_eq_false_iff_ne]; exact fun e => hxy (toList_inj e)
          have hd2 : ((X k).toList != (Y k).toList) = true := by simp only [bne, hd]; rfl
          clear hxy
          go_wp2_with fail
          go_quiet (fail)
          go_wp2_with fail
          go_ret
          exact ⟨by rw [eqRows_false hlt Hxy.out]; rfl, below_drewN HB.out _⟩
      · obtain rfl : k = n := by omega
        clear hB
        have E := hide (eqRows_of he.out)
        go_wp2_with fail
        go_ret
        exact ⟨by rw [E.out]; rfl, HB.out⟩
  · have h0 : ¬ (n : Int) = (m : Int) := by omega
    have h1 : ((n : Int) == (m : Int)) = false := by simpa using h0
    have h2 : ((n : Int) != (m : Int)) = true := by simpa using h0
    clear h0
    go_enter Try.func47, Try.ntmps47
    go_wp2_with fail
    go_ret
    exact ⟨by simp [eqRows, hnm], Below.refl _ _⟩
set_option maxRecDepth 100000 in
set_option maxHeartbeats 1000000 in
theorem eqReceive2 (A B : Option Addr) (n m c d : Nat) (X Y : Nat → EReceive) (w : World) (hX : RReceive w A n X) (hY : RReceive w B m Y) :
    Calls Try.prog 45 #[.slice A n c, .slice B m d] w fun e w' => e = .returned (.bool (eqRows n m X Y)) ∧ Below w.heap.size w w' := by
  have hn := hX.1
  unfold maxLen at hn
  have HX := hide hX
  have HY := hide hY
  clear hX hY
  by_cases hnm : n = m
  · subst hnm
    go_enter Try.func45, Try.ntmps45
    go_wp2_with fail
    go_loopw [5] (fun i wr => ∃ k : Nat, k ≤ n ∧ i = .int .i64 k ∧ Hid (eqTo X Y k = true) ∧ Below w.heap.size w wr) (fun i _ => n - (intOf i).toNat)
    case atStart => exact ⟨0, by omega, rfl, hide rfl, Below.refl _ _⟩
    case round =>
      obtain ⟨k, hk, rfl, he, hB⟩ := hrel
      have HB := hide hB
      by_cases hlt : k < n
      · obtain ⟨a, rfl, ha, p0, p1, p2, p3, p4, p5, p6, p7, p8⟩ := (HX.out.below hB).at_ hlt
        obtain ⟨b, rfl, hb, q0, q1, q2, q3, q4, q5, q6, q7, q8⟩ := (HY.out.below hB).at_ hlt
        clear hB
        by_cases hxy : X k = Y k
        · have Hxy := hide hxy
          have hd : decide (X k = Y k) = true := by simpa using hxy
          have hcmp := neqReceive (X k) (Y k)
          rw [hd] at hcmp
          clear hd hxy
          have hg : Try.prog.eqGuardType Try.prog.depth 85 = false := by kernel_rfl
          go_wp2_with fail
          go_quiet (fail)
          go_wp2_with fail
          go_roundw
          case rel => exact ⟨k + 1, by omega, by go_num, hide (by rw [eqTo_snoc, he.out]; simpa using Hxy.out), below_drewN HB.out _⟩
          case measure => simp [intOf]; omega
        · have Hxy := hide hxy
          have hd : decide (X k = Y k) = false := by simpa using hxy
          have hcmp := neqReceive (X k) (Y k)
          rw [hd] at hcmp
          clear hd hxy
          have hg : Try.prog.eqGuardType Try.prog.depth 85 = false := by kernel_rfl
          go_wp2_with fail
          go_quiet (fail)
          go_wp2_with fail
          go_ret
          exact ⟨by rw [eqRows_false hlt Hxy.out]; rfl, below_drewN HB.out _⟩
      · obtain rfl : k = n := by omega
        clear hB
        have E := hide (eqRows_of he.out)
        go_wp2_with fail
        go_ret
        exact ⟨by rw [E.out]; rfl, HB.out⟩
  · have h0 : ¬ (n : Int) = (m : Int) := by omega
    have h1 : ((n : Int) == (m : Int)) = false := by simpa using h0
    have h2 : ((n : Int) != (m : Int)) = true := by simpa using h0
    clear h0
    go_enter Try.func45, Try.ntmps45
    go_wp2_with fail
    go_ret
    exact ⟨by simp [eqRows, hnm], Below.refl _ _⟩
set_option maxRecDepth 100000 in
set_option maxHeartbeats 1000000 in
theorem eqMessage2 (A B : Option Addr) (n m c d : Nat) (X Y : Nat → EMessage) (w : World) (hX : RMessage w A n X) (hY : RMessage w B m Y) :
    Calls Try.prog 46 #[.slice A n c, .slice B m d] w fun e w' => e = .returned (.bool (eqRows n m X Y)) ∧ Below w.heap.size w w' := by
  have hn := hX.1
  unfold maxLen at hn
  have HX := hide hX
  have HY := hide hY
  clear hX hY
  by_cases hnm : n = m
  · subst hnm
    go_enter Try.func46, Try.ntmps46
    go_wp2_with fail
    go_loopw [5] (fun i wr => ∃ k : Nat, k ≤ n ∧ i = .int .i64 k ∧ Hid (eqTo X Y k = true) ∧ Below w.heap.size w wr) (fun i _ => n - (intOf i).toNat)
    case atStart => exact ⟨0, by omega, rfl, hide rfl, Below.refl _ _⟩
    case round =>
      obtain ⟨k, hk, rfl, he, hB⟩ := hrel
      have HB := hide hB
      by_cases hlt : k < n
      · obtain ⟨a, rfl, ha, p0, p1, p2, p3, p4, p5, p6, p7⟩ := (HX.out.below hB).at_ hlt
        obtain ⟨b, rfl, hb, q0, q1, q2, q3, q4, q5, q6, q7⟩ := (HY.out.below hB).at_ hlt
        clear hB
        by_cases hxy : X k = Y k
        · have Hxy := hide hxy
          have hd : decide (X k = Y k) = true := by simpa using hxy
          have hcmp := neqMessage (X k) (Y k)
          rw [hd] at hcmp
          clear hd hxy
          have hg : Try.prog.eqGuardType Try.prog.depth 88 = false := by kernel_rfl
          go_wp2_with fail
          go_quiet (fail)
          go_wp2_with fail
          go_roundw
          case rel => exact ⟨k + 1, by omega, by go_num, hide (by rw [eqTo_snoc, he.out]; simpa using Hxy.out), below_drewN HB.out _⟩
          case measure => simp [intOf]; omega
        · have Hxy := hide hxy
          have hd : decide (X k = Y k) = false := by simpa using hxy
          have hcmp := neqMessage (X k) (Y k)
          rw [hd] at hcmp
          clear hd hxy
          have hg : Try.prog.eqGuardType Try.prog.depth 88 = false := by kernel_rfl
          go_wp2_with fail
          go_quiet (fail)
          go_wp2_with fail
          go_ret
          exact ⟨by rw [eqRows_false hlt Hxy.out]; rfl, below_drewN HB.out _⟩
      · obtain rfl : k = n := by omega
        clear hB
        have E := hide (eqRows_of he.out)
        go_wp2_with fail
        go_ret
        exact ⟨by rw [E.out]; rfl, HB.out⟩
  · have h0 : ¬ (n : Int) = (m : Int) := by omega
    have h1 : ((n : Int) == (m : Int)) = false := by simpa using h0
    have h2 : ((n : Int) != (m : Int)) = true := by simpa using h0
    clear h0
    go_enter Try.func46, Try.ntmps46
    go_wp2_with fail
    go_ret
    exact ⟨by simp [eqRows, hnm], Below.refl _ _⟩
def sameV (v o : Vd) : Bool := eqRows v.n0 o.n0 v.F0 o.F0 && eqRows v.n1 o.n1 v.F1 o.F1 && eqRows v.n2 o.n2 v.F2 o.F2 && eqRows v.n3 o.n3 v.F3 o.F3 && eqRows v.n4 o.n4 v.F4 o.F4 && eqRows v.n5 o.n5 v.F5 o.F5
theorem eqRows_self {E : Type} [DecidableEq E] (n : Nat) (X : Nat → E) : eqRows n n X X = true := eqRows_of (by simp [eqTo])
theorem sameV_self (v : Vd) : sameV v v = true := by simp [sameV, eqRows_self]
/-- Two blocks with verdicts. -/
structure Two (w W : World) (v o : Vd) : Prop where
  q : Box W w.heap.size v
  p : Box W (w.heap.size + 1) o
  b : Below w.heap.size w W
theorem Two.below {w W W' : World} {v o : Vd} (h : Two w W v o) (hb : Below W.heap.size W W') : Two w W' v o :=
  ⟨h.q.belowS hb, h.p.belowS hb, h.b.trans (hb.mono h.b.size)⟩
theorem Two.start (w : World) (v o : Vd) : Two w ((w.alloc (.cells #[.slice v.A0 v.n0 v.c0, .slice v.A1 v.n1 v.c1, .slice v.A2 v.n2 v.c2, .slice v.A3 v.n3 v.c3, .slice v.A4 v.n4 v.c4, .slice v.A5 v.n5 v.c5] 39)).alloc (.cells #[.slice o.A0 o.n0 o.c0, .slice o.A1 o.n1 o.c1, .slice o.A2 o.n2 o.c2, .slice o.A3 o.n3 o.c3, .slice o.A4 o.n4 o.c4, .slice o.A5 o.n5 o.c5] 39)) v o := by
  refine ⟨(Box.new' w v).alloc _, ?_, ((Below.refl _ _).alloc (Nat.le_refl _) _).alloc (by simp) _⟩
  have h := Box.new' (w.alloc (.cells #[.slice v.A0 v.n0 v.c0, .slice v.A1 v.n1 v.c1, .slice v.A2 v.n2 v.c2, .slice v.A3 v.n3 v.c3, .slice v.A4 v.n4 v.c4, .slice v.A5 v.n5 v.c5] 39)) o
  simpa using h
theorem Two.drewN {w W : World} {v o : Vd} (h : Two w W v o) (n : Nat) : Two w (W.drewN n) v o := ⟨⟨h.q.lt, h.q.at_⟩, ⟨h.p.lt, h.p.at_⟩, below_drewN h.b n⟩
set_option maxRecDepth 100000 in
set_option maxHeartbeats 8000000 in
theorem same_a (v o : Vd) (w : World) (hv : VdOk w v) (ho : VdOk w o) : Calls Try.prog 19 #[.agg #[.slice v.A0 v.n0 v.c0, .slice v.A1 v.n1 v.c1, .slice v.A2 v.n2 v.c2, .slice v.A3 v.n3 v.c3, .slice v.A4 v.n4 v.c4, .slice v.A5 v.n5 v.c5], .agg #[.slice o.A0 o.n0 o.c0, .slice o.A1 o.n1 o.c1, .slice o.A2 o.n2 o.c2, .slice o.A3 o.n3 o.c3, .slice o.A4 o.n4 o.c4, .slice o.A5 o.n5 o.c5]] w fun e w' => e = .returned (.bool (sameV v o)) ∧ Below w.heap.size w w' := by
  have HV := hide hv
  have HO := hide ho
  have HT := hide (Two.start w v o)
  clear hv ho
  by_cases e0 : eqRows v.n0 o.n0 v.F0 o.F0 = true
  rotate_left
  · have e0 : eqRows v.n0 o.n0 v.F0 o.F0 = false := by simpa using e0
    have S := hide (show sameV v o = false by simp [sameV, *])
    go_enter Try.func19, Try.ntmps19
    have q := HT.out.q.q0
    have p := HT.out.p.q0
    go_wp2_with fail
    clear q p
    refine (eqEnd _ _ _ _ _ _ v.F0 o.F0 _ (HV.out.below HT.out.b).r0 (HO.out.below HT.out.b).r0).mono ?_
    rintro e W1 ⟨rfl, hb⟩
    have HT1 := hide (HT.out.below hb)
    clear HT hb
    have HT := hide HT1.out
    clear HT1
    go_wp2_with fail
    go_ret
    exact ⟨by rw [S.out]; rfl, HT.out.b⟩
  by_cases e1 : eqRows v.n1 o.n1 v.F1 o.F1 = true
  rotate_left
  · have e1 : eqRows v.n1 o.n1 v.F1 o.F1 = false := by simpa using e1
    have S := hide (show sameV v o = false by simp [sameV, *])
    go_enter Try.func19, Try.ntmps19
    have q := HT.out.q.q0
    have p := HT.out.p.q0
    go_wp2_with fail
    clear q p
    refine (eqEnd _ _ _ _ _ _ v.F0 o.F0 _ (HV.out.below HT.out.b).r0 (HO.out.below HT.out.b).r0).mono ?_
    rintro e W1 ⟨rfl, hb⟩
    have HT1 := hide (HT.out.below hb)
    clear HT hb
    have HT := hide HT1.out
    clear HT1
    have q := HT.out.q.q1
    have p := HT.out.p.q1
    go_wp2_with fail
    clear q p
    refine (eqStuck _ _ _ _ _ _ v.F1 o.F1 _ (HV.out.below HT.out.b).r1 (HO.out.below HT.out.b).r1).mono ?_
    rintro e W1 ⟨rfl, hb⟩
    have HT1 := hide (HT.out.below hb)
    clear HT hb
    have HT := hide HT1.out
    clear HT1
    go_wp2_with fail
    go_ret
    exact ⟨by rw [S.out]; rfl, HT.out.b⟩
  by_cases e2 : eqRows v.n2 o.n2 v.F2 o.F2 = true
  rotate_left
  · have e2 : eqRows v.n2 o.n2 v.F2 o.F2 = false := by simpa using e2
    have S := hide (show sameV v o = false by simp [sameV, *])
    go_enter Try.func19, Try.ntmps19
    have q := HT.out.q.q0
    have p := HT.out.p.q0
    go_wp2_with fail
    clear q p
    refine (eqEnd _ _ _ _ _ _ v.F0 o.F0 _ (HV.out.below HT.out.b).r0 (HO.out.below HT.out.b).r0).mono ?_
    rintro e W1 ⟨rfl, hb⟩
    have HT1 := hide (HT.out.below hb)
    clear HT hb
    have HT := hide HT1.out
    clear HT1
    have q := HT.out.q.q1
    have p := HT.out.p.q1
    go_wp2_with fail
    clear q p
    refine (eqStuck _ _ _ _ _ _ v.F1 o.F1 _ (HV.out.below HT.out.b).r1 (HO.out.below HT.out.b).r1).mono ?_
    rintro e W1 ⟨rfl, hb⟩
    have HT1 := hide (HT.out.below hb)
    clear HT hb
    have HT := hide HT1.out
    clear HT1
    have q := HT.out.q.q2
    have p := HT.out.p.q2
    go_wp2_with fail
    clear q p
    refine (eqLeak _ _ _ _ _ _ v.F2 o.F2 _ (HV.out.below HT.out.b).r2 (HO.out.below HT.out.b).r2).mono ?_
    rintro e W1 ⟨rfl, hb⟩
    have HT1 := hide (HT.out.below hb)
    clear HT hb
    have HT := hide HT1.out
    clear HT1
    go_wp2_with fail
    go_ret
    exact ⟨by rw [S.out]; rfl, HT.out.b⟩
  by_cases e3 : eqRows v.n3 o.n3 v.F3 o.F3 = true
  rotate_left
  · have e3 : eqRows v.n3 o.n3 v.F3 o.F3 = false := by simpa using e3
    have S := hide (show sameV v o = false by simp [sameV, *])
    go_enter Try.func19, Try.ntmps19
    have q := HT.out.q.q0
    have p := HT.out.p.q0
    go_wp2_with fail
    clear q p
    refine (eqEnd _ _ _ _ _ _ v.F0 o.F0 _ (HV.out.below HT.out.b).r0 (HO.out.below HT.out.b).r0).mono ?_
    rintro e W1 ⟨rfl, hb⟩
    have HT1 := hide (HT.out.below hb)
    clear HT hb
    have HT := hide HT1.out
    clear HT1
    have q := HT.out.q.q1
    have p := HT.out.p.q1
    go_wp2_with fail
    clear q p
    refine (eqStuck _ _ _ _ _ _ v.F1 o.F1 _ (HV.out.below HT.out.b).r1 (HO.out.below HT.out.b).r1).mono ?_
    rintro e W1 ⟨rfl, hb⟩
    have HT1 := hide (HT.out.below hb)
    clear HT hb
    have HT := hide HT1.out
    clear HT1
    have q := HT.out.q.q2
    have p := HT.out.p.q2
    go_wp2_with fail
    clear q p
    refine (eqLeak _ _ _ _ _ _ v.F2 o.F2 _ (HV.out.below HT.out.b).r2 (HO.out.below HT.out.b).r2).mono ?_
    rintro e W1 ⟨rfl, hb⟩
    have HT1 := hide (HT.out.below hb)
    clear HT hb
    have HT := hide HT1.out
    clear HT1
    have q := HT.out.q.q3
    have p := HT.out.p.q3
    go_wp2_with fail
    clear q p
    refine (eqReceive _ _ _ _ _ _ v.F3 o.F3 _ (HV.out.below HT.out.b).r3 (HO.out.below HT.out.b).r3).mono ?_
    rintro e W1 ⟨rfl, hb⟩
    have HT1 := hide (HT.out.below hb)
    clear HT hb
    have HT := hide HT1.out
    clear HT1
    go_wp2_with fail
    go_ret
    exact ⟨by rw [S.out]; rfl, HT.out.b⟩
  by_cases e4 : eqRows v.n4 o.n4 v.F4 o.F4 = true
  rotate_left
  · have e4 : eqRows v.n4 o.n4 v.F4 o.F4 = false := by simpa using e4
    have S := hide (show sameV v o = false by simp [sameV, *])
    go_enter Try.func19, Try.ntmps19
    have q := HT.out.q.q0
    have p := HT.out.p.q0
    go_wp2_with fail
    clear q p
    refine (eqEnd _ _ _ _ _ _ v.F0 o.F0 _ (HV.out.below HT.out.b).r0 (HO.out.below HT.out.b).r0).mono ?_
    rintro e W1 ⟨rfl, hb⟩
    have HT1 := hide (HT.out.below hb)
    clear HT hb
    have HT := hide HT1.out
    clear HT1
    have q := HT.out.q.q1
    have p := HT.out.p.q1
    go_wp2_with fail
    clear q p
    refine (eqStuck _ _ _ _ _ _ v.F1 o.F1 _ (HV.out.below HT.out.b).r1 (HO.out.below HT.out.b).r1).mono ?_
    rintro e W1 ⟨rfl, hb⟩
    have HT1 := hide (HT.out.below hb)
    clear HT hb
    have HT := hide HT1.out
    clear HT1
    have q := HT.out.q.q2
    have p := HT.out.p.q2
    go_wp2_with fail
    clear q p
    refine (eqLeak _ _ _ _ _ _ v.F2 o.F2 _ (HV.out.below HT.out.b).r2 (HO.out.below HT.out.b).r2).mono ?_
    rintro e W1 ⟨rfl, hb⟩
    have HT1 := hide (HT.out.below hb)
    clear HT hb
    have HT := hide HT1.out
    clear HT1
    have q := HT.out.q.q3
    have p := HT.out.p.q3
    go_wp2_with fail
    clear q p
    refine (eqReceive _ _ _ _ _ _ v.F3 o.F3 _ (HV.out.below HT.out.b).r3 (HO.out.below HT.out.b).r3).mono ?_
    rintro e W1 ⟨rfl, hb⟩
    have HT1 := hide (HT.out.below hb)
    clear HT hb
    have HT := hide HT1.out
    clear HT1
    have q := HT.out.q.q4
    have p := HT.out.p.q4
    go_wp2_with fail
    clear q p
    refine (eqMessage _ _ _ _ _ _ v.F4 o.F4 _ (HV.out.below HT.out.b).r4 (HO.out.below HT.out.b).r4).mono ?_
    rintro e W1 ⟨rfl, hb⟩
    have HT1 := hide (HT.out.below hb)
    clear HT hb
    have HT := hide HT1.out
    clear HT1
    go_wp2_with fail
    go_ret
    exact ⟨by rw [S.out]; rfl, HT.out.b⟩
  by_cases e5 : eqRows v.n5 o.n5 v.F5 o.F5 = true
  rotate_left
  · have e5 : eqRows v.n5 o.n5 v.F5 o.F5 = false := by simpa using e5
    have S := hide (show sameV v o = false by simp [sameV, *])
    go_enter Try.func19, Try.ntmps19
    have q := HT.out.q.q0
    have p := HT.out.p.q0
    go_wp2_with fail
    clear q p
    refine (eqEnd _ _ _ _ _ _ v.F0 o.F0 _ (HV.out.below HT.out.b).r0 (HO.out.below HT.out.b).r0).mono ?_
    rintro e W1 ⟨rfl, hb⟩
    have HT1 := hide (HT.out.below hb)
    clear HT hb
    have HT := hide HT1.out
    clear HT1
    have q := HT.out.q.q1
    have p := HT.out.p.q1
    go_wp2_with fail
    clear q p
    refine (eqStuck _ _ _ _ _ _ v.F1 o.F1 _ (HV.out.below HT.out.b).r1 (HO.out.below HT.out.b).r1).mono ?_
    rintro e W1 ⟨rfl, hb⟩
    have HT1 := hide (HT.out.below hb)
    clear HT hb
    have HT := hide HT1.out
    clear HT1
    have q := HT.out.q.q2
    have p := HT.out.p.q2
    go_wp2_with fail
    clear q p
    refine (eqLeak _ _ _ _ _ _ v.F2 o.F2 _ (HV.out.below HT.out.b).r2 (HO.out.below HT.out.b).r2).mono ?_
    rintro e W1 ⟨rfl, hb⟩
    have HT1 := hide (HT.out.below hb)
    clear HT hb
    have HT := hide HT1.out
    clear HT1
    have q := HT.out.q.q3
    have p := HT.out.p.q3
    go_wp2_with fail
    clear q p
    refine (eqReceive _ _ _ _ _ _ v.F3 o.F3 _ (HV.out.below HT.out.b).r3 (HO.out.below HT.out.b).r3).mono ?_
    rintro e W1 ⟨rfl, hb⟩
    have HT1 := hide (HT.out.below hb)
    clear HT hb
    have HT := hide HT1.out
    clear HT1
    have q := HT.out.q.q4
    have p := HT.out.p.q4
    go_wp2_with fail
    clear q p
    refine (eqMessage _ _ _ _ _ _ v.F4 o.F4 _ (HV.out.below HT.out.b).r4 (HO.out.below HT.out.b).r4).mono ?_
    rintro e W1 ⟨rfl, hb⟩
    have HT1 := hide (HT.out.below hb)
    clear HT hb
    have HT := hide HT1.out
    clear HT1
    have q := HT.out.q.q5
    have p := HT.out.p.q5
    go_wp2_with fail
    clear q p
    refine (eqStr _ _ _ _ _ _ v.F5 o.F5 _ (HV.out.below HT.out.b).r5 (HO.out.below HT.out.b).r5).mono ?_
    rintro e W1 ⟨rfl, hb⟩
    have HT1 := hide (HT.out.below hb)
    clear HT hb
    have HT := hide HT1.out
    clear HT1
    go_wp2_with fail
    go_ret
    exact ⟨by rw [S.out]; rfl, HT.out.b⟩
  have S := hide (show sameV v o = true by simp [sameV, *])
  go_enter Try.func19, Try.ntmps19
  have q := HT.out.q.q0
  have p := HT.out.p.q0
  go_wp2_with fail
  clear q p
  refine (eqEnd _ _ _ _ _ _ v.F0 o.F0 _ (HV.out.below HT.out.b).r0 (HO.out.below HT.out.b).r0).mono ?_
  rintro e W1 ⟨rfl, hb⟩
  have HT1 := hide (HT.out.below hb)
  clear HT hb
  have HT := hide HT1.out
  clear HT1
  have q := HT.out.q.q1
  have p := HT.out.p.q1
  go_wp2_with fail
  clear q p
  refine (eqStuck _ _ _ _ _ _ v.F1 o.F1 _ (HV.out.below HT.out.b).r1 (HO.out.below HT.out.b).r1).mono ?_
  rintro e W1 ⟨rfl, hb⟩
  have HT1 := hide (HT.out.below hb)
  clear HT hb
  have HT := hide HT1.out
  clear HT1
  have q := HT.out.q.q2
  have p := HT.out.p.q2
  go_wp2_with fail
  clear q p
  refine (eqLeak _ _ _ _ _ _ v.F2 o.F2 _ (HV.out.below HT.out.b).r2 (HO.out.below HT.out.b).r2).mono ?_
  rintro e W1 ⟨rfl, hb⟩
  have HT1 := hide (HT.out.below hb)
  clear HT hb
  have HT := hide HT1.out
  clear HT1
  have q := HT.out.q.q3
  have p := HT.out.p.q3
  go_wp2_with fail
  clear q p
  refine (eqReceive _ _ _ _ _ _ v.F3 o.F3 _ (HV.out.below HT.out.b).r3 (HO.out.below HT.out.b).r3).mono ?_
  rintro e W1 ⟨rfl, hb⟩
  have HT1 := hide (HT.out.below hb)
  clear HT hb
  have HT := hide HT1.out
  clear HT1
  have q := HT.out.q.q4
  have p := HT.out.p.q4
  go_wp2_with fail
  clear q p
  refine (eqMessage _ _ _ _ _ _ v.F4 o.F4 _ (HV.out.below HT.out.b).r4 (HO.out.below HT.out.b).r4).mono ?_
  rintro e W1 ⟨rfl, hb⟩
  have HT1 := hide (HT.out.below hb)
  clear HT hb
  have HT := hide HT1.out
  clear HT1
  have q := HT.out.q.q5
  have p := HT.out.p.q5
  go_wp2_with fail
  clear q p
  refine (eqStr _ _ _ _ _ _ v.F5 o.F5 _ (HV.out.below HT.out.b).r5 (HO.out.below HT.out.b).r5).mono ?_
  rintro e W1 ⟨rfl, hb⟩
  have HT1 := hide (HT.out.below hb)
  clear HT hb
  have HT := hide HT1.out
  clear HT1
  go_wp2_with fail
  go_ret
  exact ⟨by rw [S.out]; rfl, HT.out.b⟩
end Go.Proofs.Ytnmddeplchideaa.VerdictKindsW
